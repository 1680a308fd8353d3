/-
  What enc.FromQuoted does, over this seat's program: what quoted-printable bytes say, and how many are counted.
-/
import Derived.Test.YtedpimhhbajljaaDoorFqh
set_option linter.unusedVariables false
namespace Go.Proofs.YtedpimhhbajljaaDoor
open Go.RowKit Go.Proofs.Enc

/-- What the frame of FromQuoted holds at its label, k bytes read. -/
def FqJ (s : ByteArray) (w : World) (a' : Act) (w' : World) : Prop :=
  ∃ (k cnt : Nat) (acc : List UInt8) (u : Nat → Value), a' = { tmps := #[.string s, undef, .string ⟨#[]⟩, .int .i64 0, .pointer (some ⟨w.heap.size, 0, none⟩), .int .i64 k, .int .i64 cnt, u 7, u 8, u 9, u 10, u 11, u 12, u 13, u 14, u 15, u 16, u 17, u 18, u 19, u 20, u 21, u 22, u 23, u 24, u 25, u 26, u 27, u 28, u 29, u 30, u 31, u 32, u 33, u 34, u 35, u 36, u 37, u 38, u 39, u 40, u 41, u 42, u 43, u 44, u 45, u 46, u 47, u 48, u 49, u 50, u 51, u 52, u 53, u 54, u 55, u 56, u 57, u 58, u 59, u 60, u 61, u 62, u 63, u 64, u 65, u 66, u 67, u 68, u 69, u 70, u 71, u 72, u 73, u 74, u 75, u 76, u 77, u 78, u 79, u 80, u 81, u 82, u 83, u 84, u 85, u 86, u 87, u 88, u 89, u 90, u 91, u 92, u 93, u 94, u 95, u 96], defers := [] } ∧
    k ≤ s.size ∧ cnt ≤ k ∧ acc.length ≤ k ∧ Hid (acc ++ (fq (s.data.toList.drop k)).1 = (fq s.data.toList).1 ∧ cnt + (fq (s.data.toList.drop k)).2 = (fq s.data.toList).2) ∧
    Lib.IsBuilderF 60 5 w.heap.size w.heap.size (Lib.byteCells acc) w' ∧ Below w.heap.size w w' ∧ w.heap.size + 1 ≤ w'.heap.size

theorem FqJ.mk {s : ByteArray} {w : World} {a' : Act} {w' : World} (k cnt : Nat) (acc : List UInt8)
    (ha : a' = { tmps := #[.string s, undef, .string ⟨#[]⟩, .int .i64 0, .pointer (some ⟨w.heap.size, 0, none⟩), .int .i64 k, .int .i64 cnt, a'.tmps.getD 7 undef, a'.tmps.getD 8 undef, a'.tmps.getD 9 undef, a'.tmps.getD 10 undef, a'.tmps.getD 11 undef, a'.tmps.getD 12 undef, a'.tmps.getD 13 undef, a'.tmps.getD 14 undef, a'.tmps.getD 15 undef, a'.tmps.getD 16 undef, a'.tmps.getD 17 undef, a'.tmps.getD 18 undef, a'.tmps.getD 19 undef, a'.tmps.getD 20 undef, a'.tmps.getD 21 undef, a'.tmps.getD 22 undef, a'.tmps.getD 23 undef, a'.tmps.getD 24 undef, a'.tmps.getD 25 undef, a'.tmps.getD 26 undef, a'.tmps.getD 27 undef, a'.tmps.getD 28 undef, a'.tmps.getD 29 undef, a'.tmps.getD 30 undef, a'.tmps.getD 31 undef, a'.tmps.getD 32 undef, a'.tmps.getD 33 undef, a'.tmps.getD 34 undef, a'.tmps.getD 35 undef, a'.tmps.getD 36 undef, a'.tmps.getD 37 undef, a'.tmps.getD 38 undef, a'.tmps.getD 39 undef, a'.tmps.getD 40 undef, a'.tmps.getD 41 undef, a'.tmps.getD 42 undef, a'.tmps.getD 43 undef, a'.tmps.getD 44 undef, a'.tmps.getD 45 undef, a'.tmps.getD 46 undef, a'.tmps.getD 47 undef, a'.tmps.getD 48 undef, a'.tmps.getD 49 undef, a'.tmps.getD 50 undef, a'.tmps.getD 51 undef, a'.tmps.getD 52 undef, a'.tmps.getD 53 undef, a'.tmps.getD 54 undef, a'.tmps.getD 55 undef, a'.tmps.getD 56 undef, a'.tmps.getD 57 undef, a'.tmps.getD 58 undef, a'.tmps.getD 59 undef, a'.tmps.getD 60 undef, a'.tmps.getD 61 undef, a'.tmps.getD 62 undef, a'.tmps.getD 63 undef, a'.tmps.getD 64 undef, a'.tmps.getD 65 undef, a'.tmps.getD 66 undef, a'.tmps.getD 67 undef, a'.tmps.getD 68 undef, a'.tmps.getD 69 undef, a'.tmps.getD 70 undef, a'.tmps.getD 71 undef, a'.tmps.getD 72 undef, a'.tmps.getD 73 undef, a'.tmps.getD 74 undef, a'.tmps.getD 75 undef, a'.tmps.getD 76 undef, a'.tmps.getD 77 undef, a'.tmps.getD 78 undef, a'.tmps.getD 79 undef, a'.tmps.getD 80 undef, a'.tmps.getD 81 undef, a'.tmps.getD 82 undef, a'.tmps.getD 83 undef, a'.tmps.getD 84 undef, a'.tmps.getD 85 undef, a'.tmps.getD 86 undef, a'.tmps.getD 87 undef, a'.tmps.getD 88 undef, a'.tmps.getD 89 undef, a'.tmps.getD 90 undef, a'.tmps.getD 91 undef, a'.tmps.getD 92 undef, a'.tmps.getD 93 undef, a'.tmps.getD 94 undef, a'.tmps.getD 95 undef, a'.tmps.getD 96 undef], defers := [] })
    (h1 : k ≤ s.size) (h2 : cnt ≤ k) (h3 : acc.length ≤ k) (h4 : Hid (acc ++ (fq (s.data.toList.drop k)).1 = (fq s.data.toList).1 ∧ cnt + (fq (s.data.toList.drop k)).2 = (fq s.data.toList).2))
    (h5 : Lib.IsBuilderF 60 5 w.heap.size w.heap.size (Lib.byteCells acc) w') (h6 : Below w.heap.size w w') (h7 : w.heap.size + 1 ≤ w'.heap.size) : FqJ s w a' w' :=
  ⟨k, cnt, acc, fun i => a'.tmps.getD i undef, ha, h1, h2, h3, h4, h5, h6, h7⟩

theorem lend_le {l : List UInt8} (h : lend l < 3) : lend l ≤ l.length := by
  match l with
  | [] => simp [lend]
  | [c] =>
    simp only [lend] at h ⊢
    split <;> simp_all
  | c :: d :: _ =>
    simp only [lend] at h ⊢
    split
    · simp
    · split
      · simp
      · simp_all

theorem blanks_pos {c : UInt8} {r : List UInt8} (h : 0 < blanks (c :: r)) : (c.toNat = 32 ∨ c.toNat = 9) ∧ blanks (c :: r) = blanks r + 1 := by
  rw [blanks] at h ⊢
  by_cases hc : c.toNat = 32 ∨ c.toNat = 9
  · rw [if_pos hc]; exact ⟨hc, rfl⟩
  · rw [if_neg hc] at h; omega
theorem blanks_none {c : UInt8} {r : List UInt8} (h : ¬ 0 < blanks (c :: r)) : ¬ (c.toNat = 32 ∨ c.toNat = 9) := by
  intro hc
  rw [blanks, if_pos hc] at h
  omega

set_option maxHeartbeats 1000000 in
set_option maxRecDepth 100000 in
/-- enc.FromQuoted answers what the bytes say. -/
theorem fromQuoted_any (s : ByteArray) (w : World) (hs : s.size ≤ 1099511627776) :
    Calls Tryd.prog 32 #[.string s] w fun e w' => e = .returned (.tuple #[.string (bts (fq s.data.toList).1), .int .i64 (fq s.data.toList).2]) ∧ Below w.heap.size w w' := by
  go_enter Tryd.func32, Tryd.ntmps32
  go_wp2
  refine wp_scope_one 0 (FqJ s w) (fun a' _ => s.size - (intOf (a'.tmps.getD 5 undef)).toNat) rfl ?_ ?_
  · intro hp
    go_wp2_with fail
    refine (grow_new _ w (by omega)).mono ?_
    rintro e w1 ⟨rfl, h1, b1, z1⟩
    go_wp2
    go_step3
    rename_i K hK
    exact hK _ _ (hp _ _ (FqJ.mk 0 0 [] rfl (Nat.zero_le _) (Nat.zero_le _) (by simp) (hide ⟨rfl, Nat.zero_add _⟩) h1 b1 z1))
  · rintro a' w' ⟨k, cnt, acc, u, rfl, hk, hcnt, hacc, HE, hI, hbw, hz⟩
    by_cases hend : k = s.size
    · have hbe : ((k : Int) == (s.size : Int)) = true := by simp [hend]
      have hfin : acc = (fq s.data.toList).1 ∧ cnt = (fq s.data.toList).2 := by
        have := unhide HE
        rw [drop_end s (by omega)] at this
        simpa [fq, fqF] using this
      have HF := hide hfin
      clear hfin hend
      go_wp2_with fail
      refine (Tryd.Builder_String_any_k w.heap.size w.heap.size acc _ hI (by omega)).mono ?_
      rintro e w2 ⟨rfl, _, hb2, _⟩
      go_wp2
      simp only [Exit.jump]
      go_ret2
      exact ⟨by rw [← (unhide HF).1, ← (unhide HF).2]; rfl, hbw.trans hb2⟩
    · have hlt : k < s.size := by omega
      have hbe : ((k : Int) == (s.size : Int)) = false := by simp; omega
      have hd := drop_byte s k hlt
      have hc := s[k].toNat_lt
      have hs1 := slice_from s k k rfl (by omega)
      have hs2 := slice_from s ((k : Int) + 1) (k + 1) (by omega) (by omega)
      have hz1 : (s.extract k s.size).size ≤ 1099511627776 := by rw [size_part _ _ _ (Nat.le_refl _)]; omega
      have hz2 : (s.extract (k + 1) s.size).size ≤ 1099511627776 := by rw [size_part _ _ _ (Nat.le_refl _)]; omega
      have HL1 := hide (toList_from s k)
      have HL2 := hide (toList_from s (k + 1))
      have HD := hide hd
      have C1 := fun W => countBlanks_any (s.extract k s.size) W hz1
      have C2 := fun W => codedByte_any (s.extract k s.size) W hz1
      have C3 := fun W => lineEnd_any (s.extract (k + 1) s.size) W hz2
      rw [toList_from, hd] at C1 C2
      rw [toList_from] at C3
      obtain ⟨r, hr⟩ : ∃ r, s.data.toList.drop (k + 1) = r := ⟨_, rfl⟩
      obtain ⟨bl, hbl⟩ : ∃ bl, blanks (s[k] :: r) = bl := ⟨_, rfl⟩
      obtain ⟨cv, hcv⟩ : ∃ cv, codV (s[k] :: r) = cv := ⟨_, rfl⟩
      obtain ⟨cb, hcb⟩ : ∃ cb, codB (s[k] :: r) = cb := ⟨_, rfl⟩
      obtain ⟨ev, hev⟩ : ∃ ev, lendV r = ev := ⟨_, rfl⟩
      obtain ⟨eb, heb⟩ : ∃ eb, decide (lend r < 3) = eb := ⟨_, rfl⟩
      rw [hr, hbl] at C1
      rw [hr, hcv, hcb] at C2
      rw [hr, hev, heb] at C3
      have HBL := hide hbl
      have HCV := hide hcv
      have HCB := hide hcb
      have HEV := hide hev
      have HEB := hide heb
      have HR := hide hr
      have HC1 := hide C1
      have HC2 := hide C2
      have HC3 := hide C3
      clear hend hd hr hbl hcv hcb hev heb C1 C2 C3 hz1 hz2
      generalize s.extract k s.size = t1 at hs1 HC1 HC2
      generalize s.extract (k + 1) s.size = t2 at hs2 HC3
      go_wp2_with fail
      refine (unhide HC1 _).mono ?_
      rintro e w1 ⟨rfl, rfl⟩
      go_wp2_with fail
      refine (unhide HC2 _).mono ?_
      rintro e w1 ⟨rfl, rfl⟩
      go_wp2_with fail
      refine (unhide HC3 _).mono ?_
      rintro e w1 ⟨rfl, rfl⟩
      clear hs1 hs2 HC1 HC2 HC3
      have HE2 : Hid (acc ++ (fq (s[k] :: r)).1 = (fq s.data.toList).1 ∧ cnt + (fq (s[k] :: r)).2 = (fq s.data.toList).2) := by
        rw [← unhide HR, ← unhide HD]; exact HE
      clear HE
      have hrl : r.length = s.size - (k + 1) := by rw [← unhide HR, List.length_drop, sizeL]
      by_cases hb0 : 0 < bl
      · have hp := blanks_pos (c := s[k]) (r := r) (by rw [unhide HBL]; exact hb0)
        have hbr : bl = blanks r + 1 := by rw [← unhide HBL]; exact hp.2
        have hble := blanks_le r
        have hkb : k + bl ≤ s.size := by omega
        have hs3 := slice_from s ((k : Int) + (bl : Int)) (k + bl) (by omega) hkb
        have C4 := fun W => lineEnd_any (s.extract (k + bl) s.size) W (by rw [size_part _ _ _ (Nat.le_refl _)]; omega)
        have hdb : s.data.toList.drop (k + bl) = r.drop (blanks r) := by rw [show k + bl = k + 1 + blanks r by omega, ← List.drop_drop, unhide HR]
        rw [toList_from, hdb] at C4
        have HC4 := hide C4
        have HDB := hide hdb
        have HHP := hide hp
        have HBR := hide hbr
        have hs4 := slice_km s k bl hkb
        have htk : (s.extract k (k + bl)).data.toList = (s[k] :: r).take bl := by rw [toList_part, unhide HD, unhide HR, show k + bl - k = bl by omega]
        have hsz4 : (s.extract k (k + bl)).size = bl := by rw [size_part _ _ _ hkb]; omega
        have HTK := hide htk
        clear C4 hdb hp hbr htk
        generalize s.extract (k + bl) s.size = t3 at hs3 HC4
        generalize s.extract k (k + bl) = t4 at hs4 HTK hsz4
        go_wp2_with fail
        refine (unhide HC4 _).mono ?_
        rintro e w1 ⟨rfl, rfl⟩
        clear hs3 HC4
        by_cases hle : lend (r.drop (blanks r)) < 3
        · have hfin := unhide HE2
          rw [fq_blanks_end _ _ (unhide HHP).1 hle, ← unhide HDB] at hfin
          have HF := hide hfin
          clear hfin HE2
          go_wp2
          go_step3
          refine ⟨rfl, FqJ.mk (k + bl) cnt acc rfl hkb (by omega) (by omega) HF hI hbw hz, ?_⟩
          simp [intOf]
          omega
        · have hfin := unhide HE2
          have hin := fq_blanks_in (s[k] :: r) (by rw [unhide HBL, unhide HBR]; simpa using hle)
          rw [unhide HBL] at hin
          rw [hin, show (s[k] :: r).drop bl = s.data.toList.drop (k + bl) by rw [unhide HDB, unhide HBR]; simp, ← List.append_assoc, ← unhide HTK] at hfin
          have HF := hide hfin
          clear hfin HE2 hin
          go_wp2_with fail
          refine (writeString_k w.heap.size w.heap.size acc t4 _ hI (by omega) (by omega)).mono ?_
          rintro e w3 ⟨rfl, h3, b3⟩
          have hz3 := b3.size
          have hl4 : (acc ++ t4.data.toList).length ≤ k + bl := by rw [List.length_append, sizeL]; omega
          have HL4 := hide hl4
          clear hl4
          go_wp2
          go_step3
          refine ⟨rfl, FqJ.mk (k + bl) cnt _ rfl hkb (by omega) (unhide HL4) HF h3 (hbw.trans b3) (by omega), ?_⟩
          simp [intOf]
          omega
      · have hnb := blanks_none (c := s[k]) (r := r) (by rw [unhide HBL]; exact hb0)
        have hbl0 : bl = 0 := by omega
        subst hbl0
        have hfin := unhide HE2
        rw [fq_cons] at hfin
        by_cases h61 : s[k].toNat = 61
        · have hbe6 : ((s[k].toNat : Int) == 61) = true := by simp [h61]
          rw [if_pos h61] at hfin
          cases cb with
          | true =>
            have hcd : coded r < 256 := by have := unhide HCB; simp only [codB, decide_eq_true_eq] at this; exact this.2
            have hcl := coded_len hcd
            have hcv : cv = coded r := by rw [← unhide HCV]; exact codV_of (unhide HCB)
            rw [if_pos hcd, ← hcv] at hfin
            have hdr : s.data.toList.drop (k + 3) = r.drop 2 := by rw [← unhide HR, List.drop_drop]
            rw [← hdr] at hfin
            have hcvb : ((cv : Nat) : Int) = ((UInt8.ofNat cv).toNat : Int) := by simp; omega
            have HF := hide hfin
            have HCVB := hide hcvb
            clear hfin HE2 hnb hdr hcvb hcv
            go_wp2_with fail
            refine (writeByte_k w.heap.size w.heap.size (Lib.byteCells acc) _ _ hI (by rw [Lib.byteCells_length]; omega) (by omega)).mono ?_
            rintro e w3 ⟨rfl, h3, b3, k3⟩
            rw [byteCells_snoc acc _ _ (unhide HCVB)] at h3
            have hz3 := b3.size
            clear k3
            go_wp2
            go_step3
            refine ⟨rfl, FqJ.mk (k + 3) cnt _ rfl (by omega) (by omega) (by simp; omega) (hide ⟨by simpa using (unhide HF).1, (unhide HF).2⟩) (Or.inr h3) (hbw.trans b3) (by omega), ?_⟩
            simp [intOf]
            omega
          | false =>
            have hcd : ¬ coded r < 256 := by
              intro h
              have := unhide HCB
              simp only [codB, decide_eq_false_iff_not] at this
              exact this ⟨h61, h⟩
            rw [if_neg hcd] at hfin
            cases eb with
            | true =>
              have hle : lend r < 3 := by have := unhide HEB; simpa using this
              have hev : ev = lend r := by rw [← unhide HEV, lendV, if_pos hle]
              rw [if_pos hle, ← hev] at hfin
              have hll : lend r ≤ r.length := lend_le hle
              have hdr : s.data.toList.drop (k + (1 + ev)) = r.drop ev := by rw [show k + (1 + ev) = k + 1 + ev by omega, ← List.drop_drop, unhide HR]
              rw [← hdr] at hfin
              have HF := hide hfin
              have HEV2 := hide hev
              have hev3 : k + (1 + ev) ≤ s.size := by omega
              clear hfin HE2 hnb hdr hev hcd
              go_wp2
              go_step3
              refine ⟨rfl, FqJ.mk (k + (1 + ev)) cnt acc rfl hev3 (by omega) (by omega) HF hI hbw hz, ?_⟩
              simp [intOf]
              omega
            | false =>
              have hle : ¬ lend r < 3 := by have := unhide HEB; simpa using this
              rw [if_neg hle, ← unhide HR] at hfin
              have HF := hide hfin
              clear hfin HE2 hnb hcd hle
              go_wp2_with fail
              refine (writeByte_k w.heap.size w.heap.size (Lib.byteCells acc) _ _ hI (by rw [Lib.byteCells_length]; omega) (by omega)).mono ?_
              rintro e w3 ⟨rfl, h3, b3, k3⟩
              rw [byteCells_snoc acc s[k] 61 (by rw [h61]; rfl)] at h3
              have hz3 := b3.size
              clear k3
              go_wp2
              go_step3
              refine ⟨rfl, FqJ.mk (k + 1) (cnt + 1) _ rfl (by omega) (by omega) (by simp; omega) (hide ⟨by simpa using (unhide HF).1, by have := (unhide HF).2; omega⟩) (Or.inr h3) (hbw.trans b3) (by omega), ?_⟩
              simp [intOf]
              omega
        · have hbe6 : ((s[k].toNat : Int) == 61) = false := by simp; omega
          rw [if_neg h61, if_neg (by intro x; exact hnb x.1), ← unhide HR] at hfin
          have hcb : cb = false := by rw [← unhide HCB]; simp [codB, h61]
          subst hcb
          have HF := hide hfin
          clear hfin HE2 hnb
          go_wp2_with fail
          refine (writeByte_k w.heap.size w.heap.size (Lib.byteCells acc) _ _ hI (by rw [Lib.byteCells_length]; omega) (by omega)).mono ?_
          rintro e w3 ⟨rfl, h3, b3, k3⟩
          rw [byteCells_snoc acc s[k] _ rfl] at h3
          have hz3 := b3.size
          clear k3
          go_wp2
          go_step3
          refine ⟨rfl, FqJ.mk (k + 1) cnt _ rfl (by omega) (by omega) (by simp; omega) (hide ⟨by simpa using (unhide HF).1, (unhide HF).2⟩) (Or.inr h3) (hbw.trans b3) (by omega), ?_⟩
          simp [intOf]
          omega
end Go.Proofs.YtedpimhhbajljaaDoor
