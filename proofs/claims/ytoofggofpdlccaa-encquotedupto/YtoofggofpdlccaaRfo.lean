/-
  What missiveref05.FromQuoted does, over this seat's program: what quoted-printable bytes say, and how many are counted.
-/
import Derived.Test.YtoofggofpdlccaaRfq
import Derived.Test.YtoofggofpdlccaaRow
import Derived.Deep.RegionLaw
set_option linter.unusedVariables false
namespace Go.Proofs.Ytoofggofpdlccaa
open Go.RowKit Go.Proofs.Enc

/-- append to a row that the call owns, as one step of a region that draws. -/
theorem step_append_own {P : Program} {ops : Array Oper} {o : Oper} {a : Act} {w : World} {K : Act → World → Prop} {Q : Exit → Act → World → Prop} {E : Prop} (hgd : o.guard = none) (s x : Operand) (t : TypeId)
    (ho : o.op = .call { callee := .builtin .append, args := #[s, x], argTypes := #[t, t] })
    (base : Nat) (e : TypeId) (i : TypeInfo) (z : Value) (size bytes : Nat) (ht : P.underlying t = some (.slice e)) (hi : P.info? e = some i) (hz : i.zero = some z)
    (hsize : i.size = size) (hby : i.bytes = bytes) (hzs : z.cells.size = size) (hsz : 0 < size)
    (v : Value) (n : Nat) (xs : List Value) (hs : a.eval s = v) (hown : w.ownsRow base e size v n xs)
    (ad : Addr) (m c : Nat) (news : List Value) (hx : a.eval x = .slice (some ad) m c) (hl : news.length = m * size) (hnews : ∀ j u, news[j]? = some u → w.cell? (ad.add j) = some u) (h1 : ∀ u ∈ news, u.oneCell' = true)
    (h63 : n + m ≤ maxLen) (hbytes : (n + m) * bytes ≤ 140737488355328) (hbase : base ≤ w.heap.size)
    (h : ∀ v' w', w'.ownsRow base e size v' (n + m) (xs ++ news) → w.grownBy w' v.ownBlock → K (a.put o.dst v') w') :
    if Region.wanted o (yielded ops a.tmps) = true then Oper.wp P o a w K Q else E := by
  have hw : Region.wanted o (yielded ops a.tmps) = true := by simp [Region.wanted, hgd]
  rw [if_pos hw]
  exact wp_append_own w s x t ho base e i z size bytes ht hi hz hsize hby hzs hsz v n xs hs hown ad m c news hx hl hnews h1 h63 hbytes hbase fun v' w' h2 h3 _ => h v' w' h2 h3

theorem one_cell (w : World) (v : Value) (t : TypeId) : ∀ j u, [v][j]? = some u → (w.alloc (.cells #[v] t)).cell? (Addr.add ⟨w.heap.size, 0, none⟩ j) = some u := by
  intro j u hj
  match j, hj with
  | 0, hj => simp at hj; subst hj; simp [Addr.add]

theorem lend_len {l : List UInt8} (h : lend l < 3) : lend l ≤ l.length := by
  match l with
  | [] => simp [lend]
  | [c] =>
    simp only [lend] at h ⊢
    split <;> simp_all
  | c :: d :: _ =>
    simp only [lend] at h ⊢
    split
    · simp
    · split
      · simp
      · simp_all

theorem digI_ok {c : UInt8} (h : dig c < 16) : digI c = (dig c : Int) := by rw [digI, if_pos h]
theorem digI_no {c : UInt8} (h : ¬ dig c < 16) : digI c = -1 := by rw [digI, if_neg h]

set_option maxHeartbeats 2000000 in
set_option maxRecDepth 100000 in
/-- missiveref05.FromQuoted answers what the bytes say. -/
theorem refFromQuoted_any (s : ByteArray) (w : World) (hs : s.size ≤ 4000000) :
    Calls Try.prog 16 #[.string s] w fun e w' => e = .returned (.tuple #[.string (bts (fq s.data.toList).1), .int .i64 (fq s.data.toList).2]) ∧ Below w.heap.size w w' := by
  obtain ⟨i0, hi, hz0, hz1, hz2⟩ := info_parts bInfo
  go_enter Try.func16, Try.ntmps16
  go_wp2
  go_loopw [4, 5, 6, 7, 8] (fun x vc z y1 y2 wr => ∃ (k cnt : Nat) (acc : List UInt8), vc = .int .i64 cnt ∧ z = .int .i64 k ∧ k ≤ s.size ∧ cnt ≤ k ∧ acc.length ≤ k ∧
    Hid (acc ++ (fq (s.data.toList.drop k)).1 = (fq s.data.toList).1 ∧ cnt + (fq (s.data.toList.drop k)).2 = (fq s.data.toList).2) ∧
    wr.ownsRow w.heap.size 5 1 x acc.length (Lib.byteCells acc) ∧ Below w.heap.size w wr) (fun _ _ z _ _ _ => s.size - (intOf z).toNat)
  case atStart => exact ⟨0, 0, [], rfl, rfl, by omega, by omega, by simp, hide ⟨rfl, Nat.zero_add _⟩, ⟨rfl, Or.inl ⟨rfl, rfl⟩⟩, Below.refl _ _⟩
  case round =>
    obtain ⟨k, cnt, acc, rfl, rfl, hk, hcnt, hacc, HE, hown, hbw⟩ := hrel
    have hbs := hbw.size
    by_cases hlt : k < s.size
    · have hd := drop_byte s k hlt
      have hc := s[k].toNat_lt
      have hfin := unhide HE
      rw [hd, fq_cons] at hfin
      by_cases h61 : s[k].toNat = 61
      · have hb6 : ((s[k].toNat : Int) == 61) = true := by simp [h61]
        rw [if_pos h61] at hfin
        by_cases hcd : coded (s.data.toList.drop (k + 1)) < 256
        · have hcl := coded_len hcd
          rw [List.length_drop, sizeL] at hcl
          have h1 : k + 1 < s.size := by omega
          have h2 : k + 2 < s.size := by omega
          have hcv : dig s[k + 1] < 16 ∧ dig s[k + 2] < 16 ∧ coded (s.data.toList.drop (k + 1)) = dig s[k + 1] * 16 + dig s[k + 2] := by
            have e1 := drop_byte s (k + 1) h1
            have e2 := drop_byte s (k + 2) h2
            rw [e1, e2] at hcd ⊢
            simp only [coded] at hcd ⊢
            by_cases h : dig s[k + 1] < 16 ∧ dig s[k + 2] < 16
            · exact ⟨h.1, h.2, by rw [if_pos h]⟩
            · rw [if_neg h] at hcd; omega
          rw [if_pos hcd, hcv.2.2, List.drop_drop] at hfin
          have HF := hide hfin
          have D1 := fun W => refDigit_any s[k + 1] W
          have D2 := fun W => refDigit_any s[k + 2] W
          rw [digI_ok hcv.1] at D1
          rw [digI_ok hcv.2.1] at D2
          have Z1 := hide (digI_ok hcv.1)
          have Z2 := hide (digI_ok hcv.2.1)
          have g1 := hcv.1
          have g2 := hcv.2.1
          have HD1 := hide D1
          have HD2 := hide D2
          have hn1 : (k : Int) + 1 < (s.size : Int) := by omega
          have hn2 : (k : Int) + 2 < (s.size : Int) := by omega
          clear hfin hd h61 hcd hcl hcv D1 D2 HE
          generalize dig s[k + 1] = x at g1 HD1 HF Z1
          generalize dig s[k + 2] = y at g2 HD2 HF Z2
          go_wp2_with fail
          refine (unhide HD1 _).mono ?_
          rintro e w1 ⟨rfl, rfl⟩
          go_wp2_with fail
          refine (unhide HD2 _).mono ?_
          rintro e w1 ⟨rfl, rfl⟩
          go_wp2
          obtain ⟨k1, hk1⟩ : ∃ k1, k + 1 = k1 := ⟨_, rfl⟩
          obtain ⟨k2, hk2⟩ : ∃ k2, k + 2 = k2 := ⟨_, rfl⟩
          have h1' : k1 < s.size := by omega
          have h2' : k2 < s.size := by omega
          have z1 : digI s[k1] = (x : Int) := by subst hk1; exact unhide Z1
          have z2 : digI s[k2] = (y : Int) := by subst hk2; exact unhide Z2
          have v1 : IntKind.i64.wrap ((k : Int) + 1) = (k1 : Int) := by rw [IntKind.wrap_i64]; omega
          have v2 : IntKind.i64.wrap ((k : Int) + 2) = (k2 : Int) := by rw [IntKind.wrap_i64]; omega
          obtain ⟨p, hp⟩ : ∃ p : Nat, 16 * x = p := ⟨_, rfl⟩
          obtain ⟨q, hq⟩ : ∃ q : Nat, p + y = q := ⟨_, rfl⟩
          have v3 : IntKind.i64.wrap (16 * (x : Int)) = (p : Int) := by rw [IntKind.wrap_i64]; omega
          have v4 : IntKind.i64.wrap ((p : Int) + (y : Int)) = (q : Int) := by rw [IntKind.wrap_i64]; omega
          have v5 : IntKind.u8.wrap (q : Int) = (q : Int) := by rw [IntKind.wrap_u8]; omega
          have hbyte : (q : Int) = ((UInt8.ofNat (x * 16 + y)).toNat : Int) := by simp; omega
          have HY := hide hbyte
          have hk3 : k + 3 ≤ s.size := by omega
          clear hbyte hk1 hk2 hp hq
          go_region_law (first
            | (refine step_append_own rfl _ _ 33 rfl w.heap.size 5 i0 (.int .u8 0) 1 1 Try.underlying33 hi hz0 hz1 hz2 rfl (by decide) _ acc.length (Lib.byteCells acc) (by simp [Act.eval]) (hown.alloc _) ⟨w1.heap.size, 0, none⟩ 1 1 [.int .u8 (q : Int)] (by simp [Act.eval]) rfl (one_cell _ _ _) (by intro u hu; simp at hu; subst hu; rfl) (by unfold maxLen; omega) (by omega) (by simp; omega) ?_
               intro v' w2 hown' hgrow)
            | (go_simp; refine (refDigit_any _ _).mono ?_; rintro e w1 ⟨rfl, rfl⟩; go_simp))
          all_goals
            have hb3 := own_grown (wr := w1.drew) hown hgrow hbw.drew (by simpa using hbs)
            rw [byteCells_snoc acc _ _ (unhide HY)] at hown'
            go_simp
            go_wp2
            exact ⟨⟨k + 3, cnt, acc ++ [UInt8.ofNat (x * 16 + y)], rfl, by go_num, by omega, by omega, by simp; omega, hide ⟨by simpa using (unhide HF).1, (unhide HF).2⟩, by simpa using hown', hb3⟩, by simp [intOf]; omega⟩
        · rw [if_neg hcd] at hfin
          have E1 := fun W => refEnd_any s (k + 1) W hs (by omega)
          rw [show ((k + 1 : Nat) : Int) = (k : Int) + 1 by omega] at E1
          have hdig : (¬ k + 2 < s.size) ∨ (∃ h : k + 2 < s.size, ¬ dig s[k + 1] < 16) ∨ (∃ h : k + 2 < s.size, dig s[k + 1] < 16 ∧ ¬ dig s[k + 2] < 16) := by
            by_cases h2 : k + 2 < s.size
            · right
              have e1 := drop_byte s (k + 1) (by omega)
              have e2 := drop_byte s (k + 2) h2
              rw [e1, e2] at hcd
              simp only [coded] at hcd
              by_cases g1 : dig s[k + 1] < 16
              · right
                refine ⟨h2, g1, ?_⟩
                intro g2
                rw [if_pos ⟨g1, g2⟩] at hcd
                omega
              · exact Or.inl ⟨h2, g1⟩
            · exact Or.inl h2
          have HDG := hide hdig
          have hyy : (s[k].toNat : Int) = (s[k].toNat : Int) := rfl
          have HY : Hid ((61 : Int) = (s[k].toNat : Int)) := hide (by omega)
          have HY2 : Hid ((s[k].toNat : Int) = (s[k].toNat : Int)) := hide rfl
          have f32 : ((s[k].toNat : Int) == 32) = false := by simp; omega
          have f9 : ((s[k].toNat : Int) == 9) = false := by simp; omega
          by_cases hle : lend (s.data.toList.drop (k + 1)) < 3
          · rw [if_pos hle, List.drop_drop] at hfin
            have hll := lend_len hle
            rw [List.length_drop, sizeL] at hll
            rw [lendI, if_pos hle] at E1
            have HF := hide hfin
            have HE1 := hide E1
            clear hfin hd h61 hcd HE E1 hdig hyy
            generalize lend (s.data.toList.drop (k + 1)) = ev at hle hll HF HE1
            rcases unhide HDG with h2 | ⟨h2, g1⟩ | ⟨h2, g1, g2⟩
            · have hn2 : ¬ (k : Int) + 2 < (s.size : Int) := by omega
              go_wp2_with fail
              refine (unhide HE1 _).mono ?_
              rintro e w1 ⟨rfl, rfl⟩
              go_wp2_with fail
              refine (unhide HE1 _).mono ?_
              rintro e w1 ⟨rfl, rfl⟩
              go_wp2
              exact ⟨⟨k + (1 + ev), cnt, acc, rfl, by go_num, by omega, by omega, by omega, by rw [show k + (1 + ev) = k + 1 + ev by omega]; exact HF, hown, hbw⟩, by simp [intOf]; omega⟩
            · have hn2 : (k : Int) + 2 < (s.size : Int) := by omega
              have hn1 : (k : Int) + 1 < (s.size : Int) := by omega
              have D1 := fun W => refDigit_any s[k + 1] W
              rw [digI_no g1] at D1
              have HD1 := hide D1
              clear D1
              go_wp2_with fail
              refine (unhide HD1 _).mono ?_
              rintro e w1 ⟨rfl, rfl⟩
              go_wp2_with fail
              refine (unhide HE1 _).mono ?_
              rintro e w1 ⟨rfl, rfl⟩
              go_wp2_with fail
              refine (unhide HE1 _).mono ?_
              rintro e w1 ⟨rfl, rfl⟩
              go_wp2
              exact ⟨⟨k + (1 + ev), cnt, acc, rfl, by go_num, by omega, by omega, by omega, by rw [show k + (1 + ev) = k + 1 + ev by omega]; exact HF, hown, hbw⟩, by simp [intOf]; omega⟩
            · have hn2 : (k : Int) + 2 < (s.size : Int) := by omega
              have hn1 : (k : Int) + 1 < (s.size : Int) := by omega
              have D1 := fun W => refDigit_any s[k + 1] W
              have D2 := fun W => refDigit_any s[k + 2] W
              rw [digI_ok g1] at D1
              rw [digI_no g2] at D2
              have HD1 := hide D1
              have HD2 := hide D2
              clear D1 D2
              go_wp2_with fail
              refine (unhide HD1 _).mono ?_
              rintro e w1 ⟨rfl, rfl⟩
              go_wp2_with fail
              refine (unhide HD2 _).mono ?_
              rintro e w1 ⟨rfl, rfl⟩
              go_wp2_with fail
              refine (unhide HE1 _).mono ?_
              rintro e w1 ⟨rfl, rfl⟩
              go_wp2_with fail
              refine (unhide HE1 _).mono ?_
              rintro e w1 ⟨rfl, rfl⟩
              go_wp2
              exact ⟨⟨k + (1 + ev), cnt, acc, rfl, by go_num, by omega, by omega, by omega, by rw [show k + (1 + ev) = k + 1 + ev by omega]; exact HF, hown, hbw⟩, by simp [intOf]; omega⟩
          · rw [if_neg hle] at hfin
            rw [lendI, if_neg hle] at E1
            have HF := hide hfin
            have HE1 := hide E1
            clear hfin hd h61 hcd HE E1 hdig hyy hle HY
            have HY := HY2
            rcases unhide HDG with h2 | ⟨h2, g1⟩ | ⟨h2, g1, g2⟩
            · have hn2 : ¬ (k : Int) + 2 < (s.size : Int) := by omega
              go_wp2_with fail
              refine (unhide HE1 _).mono ?_
              rintro e w1 ⟨rfl, rfl⟩
              go_wp2_with (at_builtin; refine wpList_append_own _ rfl _ _ 33 rfl w.heap.size 5 i0 (.int .u8 0) 1 1 Try.underlying33 hi hz0 hz1 hz2 rfl (by decide) _ _ _ rfl (hown.alloc _) ⟨w1.heap.size, 0, none⟩ 1 1 [.int .u8 (s[k].toNat : Int)] rfl rfl (one_cell _ _ _) (by intro u hu; simp at hu; subst hu; rfl) (by unfold maxLen; omega) (by omega) (by simp; omega) ?_)
              intro v' w2 hown' hgrow _
              have hb3 := own_grown hown hgrow hbw (by omega)
              rw [byteCells_snoc acc s[k] _ rfl] at hown'
              go_wp2
              exact ⟨⟨k + 1, cnt + 1, acc ++ [s[k]], by go_num, by go_num, by omega, by omega, by simp; omega, hide ⟨by simpa using (unhide HF).1, by have := (unhide HF).2; omega⟩, by simpa using hown', hb3⟩, by simp [intOf]; omega⟩
            · have hn2 : (k : Int) + 2 < (s.size : Int) := by omega
              have hn1 : (k : Int) + 1 < (s.size : Int) := by omega
              have D1 := fun W => refDigit_any s[k + 1] W
              rw [digI_no g1] at D1
              have HD1 := hide D1
              clear D1
              go_wp2_with fail
              refine (unhide HD1 _).mono ?_
              rintro e w1 ⟨rfl, rfl⟩
              go_wp2_with fail
              refine (unhide HE1 _).mono ?_
              rintro e w1 ⟨rfl, rfl⟩
              go_wp2_with (at_builtin; refine wpList_append_own _ rfl _ _ 33 rfl w.heap.size 5 i0 (.int .u8 0) 1 1 Try.underlying33 hi hz0 hz1 hz2 rfl (by decide) _ _ _ rfl (hown.alloc _) ⟨w1.heap.size, 0, none⟩ 1 1 [.int .u8 (s[k].toNat : Int)] rfl rfl (one_cell _ _ _) (by intro u hu; simp at hu; subst hu; rfl) (by unfold maxLen; omega) (by omega) (by simp; omega) ?_)
              intro v' w2 hown' hgrow _
              have hb3 := own_grown hown hgrow hbw (by omega)
              rw [byteCells_snoc acc s[k] _ rfl] at hown'
              go_wp2
              exact ⟨⟨k + 1, cnt + 1, acc ++ [s[k]], by go_num, by go_num, by omega, by omega, by simp; omega, hide ⟨by simpa using (unhide HF).1, by have := (unhide HF).2; omega⟩, by simpa using hown', hb3⟩, by simp [intOf]; omega⟩
            · have hn2 : (k : Int) + 2 < (s.size : Int) := by omega
              have hn1 : (k : Int) + 1 < (s.size : Int) := by omega
              have D1 := fun W => refDigit_any s[k + 1] W
              have D2 := fun W => refDigit_any s[k + 2] W
              rw [digI_ok g1] at D1
              rw [digI_no g2] at D2
              have HD1 := hide D1
              have HD2 := hide D2
              clear D1 D2
              go_wp2_with fail
              refine (unhide HD1 _).mono ?_
              rintro e w1 ⟨rfl, rfl⟩
              go_wp2_with fail
              refine (unhide HD2 _).mono ?_
              rintro e w1 ⟨rfl, rfl⟩
              go_wp2_with fail
              refine (unhide HE1 _).mono ?_
              rintro e w1 ⟨rfl, rfl⟩
              go_wp2_with (at_builtin; refine wpList_append_own _ rfl _ _ 33 rfl w.heap.size 5 i0 (.int .u8 0) 1 1 Try.underlying33 hi hz0 hz1 hz2 rfl (by decide) _ _ _ rfl (hown.alloc _) ⟨w1.heap.size, 0, none⟩ 1 1 [.int .u8 (s[k].toNat : Int)] rfl rfl (one_cell _ _ _) (by intro u hu; simp at hu; subst hu; rfl) (by unfold maxLen; omega) (by omega) (by simp; omega) ?_)
              intro v' w2 hown' hgrow _
              have hb3 := own_grown hown hgrow hbw (by omega)
              rw [byteCells_snoc acc s[k] _ rfl] at hown'
              go_wp2
              exact ⟨⟨k + 1, cnt + 1, acc ++ [s[k]], by go_num, by go_num, by omega, by omega, by simp; omega, hide ⟨by simpa using (unhide HF).1, by have := (unhide HF).2; omega⟩, by simpa using hown', hb3⟩, by simp [intOf]; omega⟩
      · have hb6 : ((s[k].toNat : Int) == 61) = false := by simp; omega
        rw [if_neg h61] at hfin
        have HY : Hid ((s[k].toNat : Int) = (s[k].toNat : Int)) := hide rfl
        by_cases hbl : s[k].toNat = 32 ∨ s[k].toNat = 9
        · have hbk : blanks (s.data.toList.drop k) = blanks (s.data.toList.drop (k + 1)) + 1 := by rw [hd, blanks, if_pos hbl]
          obtain ⟨r, hr⟩ : ∃ r, k + blanks (s.data.toList.drop k) = r := ⟨_, rfl⟩
          have hrs : r ≤ s.size := by have := blanks_le (s.data.toList.drop k); rw [List.length_drop, sizeL] at this; omega
          have hdr : (s.data.toList.drop (k + 1)).drop (blanks (s.data.toList.drop (k + 1))) = s.data.toList.drop r := by rw [List.drop_drop, ← hr, hbk]; congr 1; omega
          have hkr : k < r := by omega
          rw [hdr] at hfin
          have HB := hide (fun W => refBlank_any s k W hs (by omega) r hr)
          have E1 := fun W => refEnd_any s r W hs (by omega)
          have hbb : (((s[k].toNat : Int) == 32) = true) ∨ (((s[k].toNat : Int) == 32) = false ∧ ((s[k].toNat : Int) == 9) = true) := by
            rcases hbl with h | h <;> simp [h]
          clear hbk hr hdr
          by_cases hle : lend (s.data.toList.drop r) < 3
          · rw [if_pos ⟨hbl, hle⟩] at hfin
            rw [lendI, if_pos hle] at E1
            have HF := hide hfin
            have HE1 := hide E1
            clear hfin hd h61 HE E1 hbl
            generalize lend (s.data.toList.drop r) = ev at hle HE1
            rcases hbb with f32 | ⟨f32, f9⟩
            all_goals
              go_wp2_with fail
              refine (unhide HB _).mono ?_
              rintro e w1 ⟨rfl, rfl⟩
              go_wp2_with fail
              refine (unhide HE1 _).mono ?_
              rintro e w1 ⟨rfl, rfl⟩
              go_wp2
              exact ⟨⟨r, cnt, acc, rfl, rfl, hrs, by omega, by omega, HF, hown, hbw⟩, by simp [intOf]; omega⟩
          · rw [if_neg (fun x => hle x.2)] at hfin
            rw [lendI, if_neg hle] at E1
            have HF := hide hfin
            have HE1 := hide E1
            clear hfin hd h61 HE E1 hbl hle
            rcases hbb with f32 | ⟨f32, f9⟩
            all_goals
              go_wp2_with fail
              refine (unhide HB _).mono ?_
              rintro e w1 ⟨rfl, rfl⟩
              go_wp2_with fail
              refine (unhide HE1 _).mono ?_
              rintro e w1 ⟨rfl, rfl⟩
              go_wp2_with (at_builtin; refine wpList_append_own _ rfl _ _ 33 rfl w.heap.size 5 i0 (.int .u8 0) 1 1 Try.underlying33 hi hz0 hz1 hz2 rfl (by decide) _ _ _ rfl (hown.alloc _) ⟨w1.heap.size, 0, none⟩ 1 1 [.int .u8 (s[k].toNat : Int)] rfl rfl (one_cell _ _ _) (by intro u hu; simp at hu; subst hu; rfl) (by unfold maxLen; omega) (by omega) (by simp; omega) ?_)
              intro v' w2 hown' hgrow _
              have hb3 := own_grown hown hgrow hbw (by omega)
              rw [byteCells_snoc acc s[k] _ rfl] at hown'
              go_wp2
              exact ⟨⟨k + 1, cnt, acc ++ [s[k]], rfl, by go_num, by omega, by omega, by simp; omega, hide ⟨by simpa using (unhide HF).1, by have := (unhide HF).2; omega⟩, by simpa using hown', hb3⟩, by simp [intOf]; omega⟩
        · rw [if_neg (fun x => hbl x.1)] at hfin
          have f32 : ((s[k].toNat : Int) == 32) = false := by simp; omega
          have f9 : ((s[k].toNat : Int) == 9) = false := by simp; omega
          have HF := hide hfin
          clear hfin hd h61 HE hbl
          go_wp2_with (at_builtin; refine wpList_append_own _ rfl _ _ 33 rfl w.heap.size 5 i0 (.int .u8 0) 1 1 Try.underlying33 hi hz0 hz1 hz2 rfl (by decide) _ _ _ rfl (hown.alloc _) ⟨wr.heap.size, 0, none⟩ 1 1 [.int .u8 (s[k].toNat : Int)] rfl rfl (one_cell _ _ _) (by intro u hu; simp at hu; subst hu; rfl) (by unfold maxLen; omega) (by omega) (by simp; omega) ?_)
          intro v' w2 hown' hgrow _
          have hb3 := own_grown hown hgrow hbw (by omega)
          rw [byteCells_snoc acc s[k] _ rfl] at hown'
          go_wp2
          exact ⟨⟨k + 1, cnt, acc ++ [s[k]], rfl, by go_num, by omega, by omega, by simp; omega, hide ⟨by simpa using (unhide HF).1, by have := (unhide HF).2; omega⟩, by simpa using hown', hb3⟩, by simp [intOf]; omega⟩
    · have hfin : acc = (fq s.data.toList).1 ∧ cnt = (fq s.data.toList).2 := by
        have := unhide HE
        rw [drop_end s (by omega)] at this
        simpa [fq, fqF] using this
      have HF := hide hfin
      have hcv := own_string hown
      clear hfin
      obtain ⟨q0, q1, q2, rfl⟩ : ∃ q0 q1 q2, u4 = .slice q0 q1 q2 := by rcases hown.2 with ⟨rfl, _⟩ | ⟨g, cap, cur, rfl, _⟩ <;> exact ⟨_, _, _, rfl⟩
      go_wp2
      go_ret2
      exact ⟨by rw [← (unhide HF).1, ← (unhide HF).2]; rfl, hbw⟩
end Go.Proofs.Ytoofggofpdlccaa
