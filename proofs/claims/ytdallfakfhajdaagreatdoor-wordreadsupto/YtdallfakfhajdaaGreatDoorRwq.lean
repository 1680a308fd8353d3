/-
  What missiveref09.plain and blank do, over this seat's program: what a text of Q says; a text without spaces and tabs at its beginning.
-/
import Derived.Test.YtdallfakfhajdaaGreatDoorBnd4
import Derived.Test.YtdallfakfhajdaaGreatDoorRff
import Derived.Deep.RegionLaw
set_option linter.unusedVariables false
namespace Go.Proofs.YtdallfakfhajdaaGreatDoor
open Go.RowKit Go.Proofs.Enc Go.Proofs.Rns

/-- append to a row that the call owns, as one step of a region that draws. -/
theorem stepW_append {P : Program} {ops : Array Oper} {o : Oper} {a : Act} {w : World} {K : Act → World → Prop} {Q : Exit → Act → World → Prop} {E : Prop} (hgd : o.guard = none) (s x : Operand) (t : TypeId)
    (ho : o.op = .call { callee := .builtin .append, args := #[s, x], argTypes := #[t, t] })
    (base : Nat) (e : TypeId) (i : TypeInfo) (z : Value) (size bytes : Nat) (ht : P.underlying t = some (.slice e)) (hi : P.info? e = some i) (hz : i.zero = some z)
    (hsize : i.size = size) (hby : i.bytes = bytes) (hzs : z.cells.size = size) (hsz : 0 < size)
    (v : Value) (n : Nat) (xs : List Value) (hs : a.eval s = v) (hown : w.ownsRow base e size v n xs)
    (ad : Addr) (m c : Nat) (news : List Value) (hx : a.eval x = .slice (some ad) m c) (hl : news.length = m * size) (hnews : ∀ j u, news[j]? = some u → w.cell? (ad.add j) = some u) (h1 : ∀ u ∈ news, u.oneCell' = true)
    (h63 : n + m ≤ maxLen) (hbytes : (n + m) * bytes ≤ 140737488355328) (hbase : base ≤ w.heap.size)
    (h : ∀ v' w', w'.ownsRow base e size v' (n + m) (xs ++ news) → w.grownBy w' v.ownBlock → K (a.put o.dst v') w') :
    if Region.wanted o (yielded ops a.tmps) = true then Oper.wp P o a w K Q else E := by
  have hw : Region.wanted o (yielded ops a.tmps) = true := by simp [Region.wanted, hgd]
  rw [if_pos hw]
  exact wp_append_own w s x t ho base e i z size bytes ht hi hz hsize hby hzs hsz v n xs hs hown ad m c news hx hl hnews h1 h63 hbytes hbase fun v' w' h2 h3 _ => h v' w' h2 h3
theorem oneW_cell (w : World) (v : Value) (t : TypeId) : ∀ j u, [v][j]? = some u → (w.alloc (.cells #[v] t)).cell? (Addr.add ⟨w.heap.size, 0, none⟩ j) = some u := by
  intro j u hj
  match j, hj with
  | 0, hj => simp at hj; subst hj; simp [Addr.add]
theorem qA_eq {f : Nat} {acc r : List UInt8} : qA (f + 1) acc (61 :: r) = (if r.length < 2 then none else match hexA 0 (r.take 2) with
      | none => none
      | some n => qA f (acc ++ [UInt8.ofNat n]) (r.drop 2)) := by
  conv => lhs; unfold qA
  rw [if_pos rfl]
  rfl
theorem hexA_two (a b : UInt8) : hexA 0 [a, b] = if dig a < 16 ∧ dig b < 16 then some (16 * dig a + dig b) else none := by
  simp only [hexA]
  by_cases h1 : dig a < 16
  · rw [if_pos h1]
    by_cases h2 : dig b < 16
    · rw [if_pos h2, if_pos ⟨h1, h2⟩]
      congr 1
      omega
    · rw [if_neg h2, if_neg (fun h => h2 h.2)]
  · rw [if_neg h1, if_neg (fun h => h1 h.1)]

set_option maxHeartbeats 4000000 in
set_option maxRecDepth 100000 in
theorem refPlain_any (s : ByteArray) (w : World) (hs : s.size ≤ 4000000) :
    Calls Tryz.prog 33 #[.string s] w fun e w' => e = .returned (optS (fromQR s.data.toList)) ∧ Below w.heap.size w w' := by
  obtain ⟨i0, hi, hz0, hz1, hz2⟩ := info_parts bInfo
  go_enter Tryz.func33, Tryz.ntmps33
  go_wp2
  go_loopw [4, 5] (fun x z wr => ∃ (k f : Nat) (acc : List UInt8), z = .int .i64 (k : Int) ∧ k ≤ s.size ∧ acc.length ≤ k ∧ s.size < f + k ∧ Hid (fromQR s.data.toList = qA f acc (s.data.toList.drop k)) ∧
    wr.ownsRow w.heap.size 5 1 x acc.length (Lib.byteCells acc) ∧ Below w.heap.size w wr) (fun _ z _ => s.size - (intOf z).toNat)
  case atStart => exact ⟨0, s.data.toList.length + 1, [], rfl, by omega, by simp, by rw [sizeL]; omega, hide rfl, ⟨rfl, Or.inl ⟨rfl, rfl⟩⟩, Below.refl _ _⟩
  case round =>
    obtain ⟨k, f, acc, rfl, hk, hacc, hf, HE, hown, hbw⟩ := hrel
    have hbs := hbw.size
    obtain ⟨f', rfl⟩ : ∃ f', f = f' + 1 := ⟨f - 1, by omega⟩
    by_cases hlt : k < s.size
    · have hlt' : (k : Int) < (s.size : Int) := by omega
      have hd := drop_byte s k hlt
      have hc := s[k].toNat_lt
      have hfin := unhide HE
      rw [hd] at hfin
      by_cases h95 : s[k] = 95
      · have e1 : ((s[k].toNat : Int) == 95) = true := by rw [h95]; rfl
        rw [qA_us (by rw [h95]; decide) h95] at hfin
        have HF := hide hfin
        clear hfin hd HE h95
        go_wp2_with (at_builtin; refine wpList_append_own _ rfl _ _ 36 rfl w.heap.size 5 i0 (.int .u8 0) 1 1 Tryz.underlying36 hi hz0 hz1 hz2 rfl (by decide) _ _ _ rfl (hown.alloc _) ⟨wr.heap.size, 0, none⟩ 1 1 [.int .u8 32] rfl rfl (oneW_cell _ _ _) (by intro u hu; simp at hu; subst hu; rfl) (by unfold maxLen; omega) (by omega) (by simp; omega) ?_)
        intro v' w2 hown' hgrow _
        have hb3 := own_grown hown hgrow hbw (by omega)
        rw [show (Lib.byteCells acc ++ [Value.int .u8 32]) = Lib.byteCells (acc ++ [32]) by simp [Lib.byteCells]] at hown'
        go_wp2
        exact ⟨⟨k + 1, f', acc ++ [32], by go_num, by omega, by simp; omega, by omega, HF, by simpa using hown', hb3⟩, by simp [intOf]; omega⟩
      · have e1 : ((s[k].toNat : Int) == 95) = false := by
          rw [beq_eq_false_iff_ne]
          intro e
          exact h95 (UInt8.toNat_inj.mp (by have : (95 : UInt8).toNat = 95 := rfl; omega))
        by_cases h61 : s[k] = 61
        · have e2 : ((s[k].toNat : Int) != 61) = false := by rw [h61]; rfl
          rw [h61, qA_eq, List.length_drop, sizeL] at hfin
          by_cases hsh : k + 2 < s.size
          · have h1 : k + 1 < s.size := by omega
            rw [if_neg (by omega), drop_byte s (k + 1) h1, drop_byte s (k + 2) hsh] at hfin
            simp only [List.take_succ_cons, List.take_zero, List.drop_succ_cons, List.drop_zero] at hfin
            rw [hexA_two] at hfin
            have hn1 : (k : Int) + 1 < (s.size : Int) := by omega
            have hn2 : (k : Int) + 2 < (s.size : Int) := by omega
            have hge : ¬ (s.size : Int) ≤ (k : Int) + 2 := by omega
            have D1 := fun W => refDigitW_any s[k + 1] W
            have D2 := fun W => refDigitW_any s[k + 2] W
            have l1 := dig_le s[k + 1]
            have l2 := dig_le s[k + 2]
            by_cases g1 : dig s[k + 1] < 16
            · have g1' : ¬ (15 : Int) < (dig s[k + 1] : Int) := by omega
              by_cases g2 : dig s[k + 2] < 16
              · have g2' : ¬ (15 : Int) < (dig s[k + 2] : Int) := by omega
                rw [if_pos ⟨g1, g2⟩] at hfin
                simp only at hfin
                have HF := hide hfin
                have HD1 := hide D1
                have HD2 := hide D2
                have Z1 : Hid (∃ x, dig s[k + 1] = x) := hide ⟨_, rfl⟩
                clear hfin hd HE h95 h61 D1 D2 hlt'
                obtain ⟨x, hx⟩ : ∃ x, dig s[k + 1] = x := ⟨_, rfl⟩
                obtain ⟨y, hy⟩ : ∃ y, dig s[k + 2] = y := ⟨_, rfl⟩
                have Z1 := hide hx
                have Z2 := hide hy
                rw [hx] at HD1 HF g1 g1' l1
                rw [hy] at HD2 HF g2 g2' l2
                clear hx hy
                go_wp2_with fail
                refine (unhide HD1 _).mono ?_
                rintro e w1 ⟨rfl, rfl⟩
                go_wp2_with fail
                refine (unhide HD2 _).mono ?_
                rintro e w1 ⟨rfl, rfl⟩
                go_wp2
                obtain ⟨k1, hk1⟩ : ∃ k1, k + 1 = k1 := ⟨_, rfl⟩
                obtain ⟨k2, hk2⟩ : ∃ k2, k + 2 = k2 := ⟨_, rfl⟩
                have h1' : k1 < s.size := by omega
                have h2' : k2 < s.size := by omega
                have z1 : dig s[k1] = x := by subst hk1; exact unhide Z1
                have z2 : dig s[k2] = y := by subst hk2; exact unhide Z2
                have v1 : IntKind.i64.wrap ((k : Int) + 1) = (k1 : Int) := by rw [IntKind.wrap_i64]; omega
                have v2 : IntKind.i64.wrap ((k : Int) + 2) = (k2 : Int) := by rw [IntKind.wrap_i64]; omega
                obtain ⟨p, hp⟩ : ∃ p : Nat, 16 * x = p := ⟨_, rfl⟩
                obtain ⟨q, hq⟩ : ∃ q : Nat, p + y = q := ⟨_, rfl⟩
                have v3 : IntKind.i64.wrap (16 * (x : Int)) = (p : Int) := by rw [IntKind.wrap_i64]; omega
                have v4 : IntKind.i64.wrap ((p : Int) + (y : Int)) = (q : Int) := by rw [IntKind.wrap_i64]; omega
                have v5 : IntKind.u8.wrap (q : Int) = (q : Int) := by rw [IntKind.wrap_u8]; omega
                have hbyte : (q : Int) = ((UInt8.ofNat (16 * x + y)).toNat : Int) := by simp; omega
                have HY := hide hbyte
                have hk3 : k + 3 ≤ s.size := by omega
                have HK2 := hide hk2
                clear hbyte hk1 hk2 hp hq
                go_region_law (first
                  | (refine stepW_append rfl _ _ 36 rfl w.heap.size 5 i0 (.int .u8 0) 1 1 Tryz.underlying36 hi hz0 hz1 hz2 rfl (by decide) _ acc.length (Lib.byteCells acc) (by simp [Act.eval]) (hown.alloc _) ⟨w1.heap.size, 0, none⟩ 1 1 [.int .u8 (q : Int)] (by simp [Act.eval]) rfl (oneW_cell _ _ _) (by intro u hu; simp at hu; subst hu; rfl) (by unfold maxLen; omega) (by omega) (by simp; omega) ?_
                     intro v' w2 hown' hgrow)
                  | (go_simp; refine (refDigitW_any _ _).mono ?_; rintro e w1 ⟨rfl, rfl⟩; go_simp))
                all_goals
                  have hb3 := own_grown (wr := w1.drew) hown hgrow hbw.drew (by simpa using hbs)
                  rw [byteCells_snoc acc _ _ (unhide HY)] at hown'
                  go_simp
                  go_wp2
                  have hk2 := unhide HK2
                  exact ⟨⟨k + 3, f', acc ++ [UInt8.ofNat (16 * x + y)], by go_num, by omega, by simp; omega, by omega, HF, by simpa using hown', hb3⟩, by simp [intOf]; omega⟩
              · have g2' : (15 : Int) < (dig s[k + 2] : Int) := by omega
                rw [if_neg (fun h => g2 h.2)] at hfin
                simp only at hfin
                have HF := hide hfin
                have HD1 := hide D1
                have HD2 := hide D2
                clear hfin hd HE h95 h61 D1 D2 hlt'
                generalize dig s[k + 1] = x at HD1 g1 g1' l1
                generalize dig s[k + 2] = y at HD2 g2 g2' l2
                go_wp2_with fail
                refine (unhide HD1 _).mono ?_
                rintro e w1 ⟨rfl, rfl⟩
                go_wp2_with fail
                refine (unhide HD2 _).mono ?_
                rintro e w1 ⟨rfl, rfl⟩
                go_wp2
                go_ret2
                exact ⟨by rw [unhide HF]; rfl, hbw⟩
            · have g1' : (15 : Int) < (dig s[k + 1] : Int) := by omega
              rw [if_neg (fun h => g1 h.1)] at hfin
              simp only at hfin
              have HF := hide hfin
              have HD1 := hide D1
              clear hfin hd HE h95 h61 D1 D2 hlt'
              generalize dig s[k + 1] = x at HD1 g1 g1' l1
              go_wp2_with fail
              refine (unhide HD1 _).mono ?_
              rintro e w1 ⟨rfl, rfl⟩
              go_wp2
              go_ret2
              exact ⟨by rw [unhide HF]; rfl, hbw⟩
          · rw [if_pos (by omega)] at hfin
            have hge : (s.size : Int) ≤ (k : Int) + 2 := by omega
            have HF := hide hfin
            clear hfin hd HE h95 h61
            go_wp2
            go_ret2
            exact ⟨by rw [unhide HF]; rfl, hbw⟩
        · have e2 : ((s[k].toNat : Int) != 61) = true := by
            rw [bne_iff_ne]
            intro e
            exact h61 (UInt8.toNat_inj.mp (by have : (61 : UInt8).toNat = 61 := rfl; omega))
          rw [qA_else h61 h95] at hfin
          have HF := hide hfin
          clear hfin hd HE h95 h61
          go_wp2_with (at_builtin; refine wpList_append_own _ rfl _ _ 36 rfl w.heap.size 5 i0 (.int .u8 0) 1 1 Tryz.underlying36 hi hz0 hz1 hz2 rfl (by decide) _ _ _ rfl (hown.alloc _) ⟨wr.heap.size, 0, none⟩ 1 1 [.int .u8 (s[k].toNat : Int)] rfl rfl (oneW_cell _ _ _) (by intro u hu; simp at hu; subst hu; rfl) (by unfold maxLen; omega) (by omega) (by simp; omega) ?_)
          intro v' w2 hown' hgrow _
          have hb3 := own_grown hown hgrow hbw (by omega)
          rw [byteCells_snoc acc s[k] _ rfl] at hown'
          go_wp2
          exact ⟨⟨k + 1, f', acc ++ [s[k]], by go_num, by omega, by simp; omega, by omega, HF, by simpa using hown', hb3⟩, by simp [intOf]; omega⟩
    · have hlt' : ¬ (k : Int) < (s.size : Int) := by omega
      have hfin : fromQR s.data.toList = some acc := by
        rw [unhide HE, drop_end s (by omega)]
        rfl
      have HF := hide hfin
      have hcv := own_string hown
      clear hfin HE
      obtain ⟨q0, q1, q2, rfl⟩ : ∃ q0 q1 q2, u4 = .slice q0 q1 q2 := by rcases hown.2 with ⟨rfl, _⟩ | ⟨g, cap, cur, rfl, _⟩ <;> exact ⟨_, _, _, rfl⟩
      go_wp2
      go_ret2
      exact ⟨by rw [unhide HF]; rfl, hbw⟩
end Go.Proofs.YtdallfakfhajdaaGreatDoor
