/-
  What missiveref09.plain and blank do, over this seat's program: what a text of Q says; a text without spaces and tabs at its beginning.
-/
import Derived.Test.YtdallfakfhajdaaGreatDoorRwp
import Derived.Test.YtdallfakfhajdaaGreatDoorRff
import Derived.Deep.RegionLaw
import Derived.Test.YtdallfakfhajdaaGreatDoorRnm
import Derived.Laws.IdiomStrings
import Derived.Deep.Cut
import Derived.Test.YtdallfakfhajdaaGreatDoorRsm
import Derived.Test.YtdallfakfhajdaaGreatDoorRns
import Derived.Laws.OwnMore
import Derived.Test.YtdallfakfhajdaaGreatDoorRtw
import Derived.Laws.AppendOwnNone
import Derived.Test.YtdallfakfhajdaaGreatDoorWlv
set_option linter.unusedVariables false
namespace Go.Proofs.YtdallfakfhajdaaGreatDoor
open Go.RowKit Go.Proofs.Enc Go.Proofs.Rns

/-- append to a row that the call owns, as one step of a region that draws. -/
theorem stepW_append {P : Program} {ops : Array Oper} {o : Oper} {a : Act} {w : World} {K : Act → World → Prop} {Q : Exit → Act → World → Prop} {E : Prop} (hgd : o.guard = none) (s x : Operand) (t : TypeId)
    (ho : o.op = .call { callee := .builtin .append, args := #[s, x], argTypes := #[t, t] })
    (base : Nat) (e : TypeId) (i : TypeInfo) (z : Value) (size bytes : Nat) (ht : P.underlying t = some (.slice e)) (hi : P.info? e = some i) (hz : i.zero = some z)
    (hsize : i.size = size) (hby : i.bytes = bytes) (hzs : z.cells.size = size) (hsz : 0 < size)
    (v : Value) (n : Nat) (xs : List Value) (hs : a.eval s = v) (hown : w.ownsRow base e size v n xs)
    (ad : Addr) (m c : Nat) (news : List Value) (hx : a.eval x = .slice (some ad) m c) (hl : news.length = m * size) (hnews : ∀ j u, news[j]? = some u → w.cell? (ad.add j) = some u) (h1 : ∀ u ∈ news, u.oneCell' = true)
    (h63 : n + m ≤ maxLen) (hbytes : (n + m) * bytes ≤ 140737488355328) (hbase : base ≤ w.heap.size)
    (h : ∀ v' w', w'.ownsRow base e size v' (n + m) (xs ++ news) → w.grownBy w' v.ownBlock → K (a.put o.dst v') w') :
    if Region.wanted o (yielded ops a.tmps) = true then Oper.wp P o a w K Q else E := by
  have hw : Region.wanted o (yielded ops a.tmps) = true := by simp [Region.wanted, hgd]
  rw [if_pos hw]
  exact wp_append_own w s x t ho base e i z size bytes ht hi hz hsize hby hzs hsz v n xs hs hown ad m c news hx hl hnews h1 h63 hbytes hbase fun v' w' h2 h3 _ => h v' w' h2 h3
theorem oneW_cell (w : World) (v : Value) (t : TypeId) : ∀ j u, [v][j]? = some u → (w.alloc (.cells #[v] t)).cell? (Addr.add ⟨w.heap.size, 0, none⟩ j) = some u := by
  intro j u hj
  match j, hj with
  | 0, hj => simp at hj; subst hj; simp [Addr.add]
theorem qA_eq {f : Nat} {acc r : List UInt8} : qA (f + 1) acc (61 :: r) = (if r.length < 2 then none else match hexA 0 (r.take 2) with
      | none => none
      | some n => qA f (acc ++ [UInt8.ofNat n]) (r.drop 2)) := by
  conv => lhs; unfold qA
  rw [if_pos rfl]
  rfl
theorem hexA_two (a b : UInt8) : hexA 0 [a, b] = if dig a < 16 ∧ dig b < 16 then some (16 * dig a + dig b) else none := by
  simp only [hexA]
  by_cases h1 : dig a < 16
  · rw [if_pos h1]
    by_cases h2 : dig b < 16
    · rw [if_pos h2, if_pos ⟨h1, h2⟩]
      congr 1
      omega
    · rw [if_neg h2, if_neg (fun h => h2 h.2)]
  · rw [if_neg h1, if_neg (fun h => h1 h.1)]

set_option maxHeartbeats 4000000 in
set_option maxRecDepth 100000 in
theorem refPlain_any (s : ByteArray) (w : World) (hs : s.size ≤ 4000000) :
    Calls Tryz.prog 33 #[.string s] w fun e w' => e = .returned (optS (fromQR s.data.toList)) ∧ Below w.heap.size w w' := by
  obtain ⟨i0, hi, hz0, hz1, hz2⟩ := info_parts bInfo
  go_enter Tryz.func33, Tryz.ntmps33
  go_wp2
  go_loopw [4, 5] (fun x z wr => ∃ (k f : Nat) (acc : List UInt8), z = .int .i64 (k : Int) ∧ k ≤ s.size ∧ acc.length ≤ k ∧ s.size < f + k ∧ Hid (fromQR s.data.toList = qA f acc (s.data.toList.drop k)) ∧
    wr.ownsRow w.heap.size 5 1 x acc.length (Lib.byteCells acc) ∧ Below w.heap.size w wr) (fun _ z _ => s.size - (intOf z).toNat)
  case atStart => exact ⟨0, s.data.toList.length + 1, [], rfl, by omega, by simp, by rw [sizeL]; omega, hide rfl, ⟨rfl, Or.inl ⟨rfl, rfl⟩⟩, Below.refl _ _⟩
  case round =>
    obtain ⟨k, f, acc, rfl, hk, hacc, hf, HE, hown, hbw⟩ := hrel
    have hbs := hbw.size
    obtain ⟨f', rfl⟩ : ∃ f', f = f' + 1 := ⟨f - 1, by omega⟩
    by_cases hlt : k < s.size
    · have hlt' : (k : Int) < (s.size : Int) := by omega
      have hd := drop_byte s k hlt
      have hc := s[k].toNat_lt
      have hfin := unhide HE
      rw [hd] at hfin
      by_cases h95 : s[k] = 95
      · have e1 : ((s[k].toNat : Int) == 95) = true := by rw [h95]; rfl
        rw [qA_us (by rw [h95]; decide) h95] at hfin
        have HF := hide hfin
        clear hfin hd HE h95
        go_wp2_with (at_builtin; refine wpList_append_own _ rfl _ _ 36 rfl w.heap.size 5 i0 (.int .u8 0) 1 1 Tryz.underlying36 hi hz0 hz1 hz2 rfl (by decide) _ _ _ rfl (hown.alloc _) ⟨wr.heap.size, 0, none⟩ 1 1 [.int .u8 32] rfl rfl (oneW_cell _ _ _) (by intro u hu; simp at hu; subst hu; rfl) (by unfold maxLen; omega) (by omega) (by simp; omega) ?_)
        intro v' w2 hown' hgrow _
        have hb3 := own_grown hown hgrow hbw (by omega)
        rw [show (Lib.byteCells acc ++ [Value.int .u8 32]) = Lib.byteCells (acc ++ [32]) by simp [Lib.byteCells]] at hown'
        go_wp2
        exact ⟨⟨k + 1, f', acc ++ [32], by go_num, by omega, by simp; omega, by omega, HF, by simpa using hown', hb3⟩, by simp [intOf]; omega⟩
      · have e1 : ((s[k].toNat : Int) == 95) = false := by
          rw [beq_eq_false_iff_ne]
          intro e
          exact h95 (UInt8.toNat_inj.mp (by have : (95 : UInt8).toNat = 95 := rfl; omega))
        by_cases h61 : s[k] = 61
        · have e2 : ((s[k].toNat : Int) != 61) = false := by rw [h61]; rfl
          rw [h61, qA_eq, List.length_drop, sizeL] at hfin
          by_cases hsh : k + 2 < s.size
          · have h1 : k + 1 < s.size := by omega
            rw [if_neg (by omega), drop_byte s (k + 1) h1, drop_byte s (k + 2) hsh] at hfin
            simp only [List.take_succ_cons, List.take_zero, List.drop_succ_cons, List.drop_zero] at hfin
            rw [hexA_two] at hfin
            have hn1 : (k : Int) + 1 < (s.size : Int) := by omega
            have hn2 : (k : Int) + 2 < (s.size : Int) := by omega
            have hge : ¬ (s.size : Int) ≤ (k : Int) + 2 := by omega
            have D1 := fun W => refDigitW_any s[k + 1] W
            have D2 := fun W => refDigitW_any s[k + 2] W
            have l1 := dig_le s[k + 1]
            have l2 := dig_le s[k + 2]
            by_cases g1 : dig s[k + 1] < 16
            · have g1' : ¬ (15 : Int) < (dig s[k + 1] : Int) := by omega
              by_cases g2 : dig s[k + 2] < 16
              · have g2' : ¬ (15 : Int) < (dig s[k + 2] : Int) := by omega
                rw [if_pos ⟨g1, g2⟩] at hfin
                simp only at hfin
                have HF := hide hfin
                have HD1 := hide D1
                have HD2 := hide D2
                have Z1 : Hid (∃ x, dig s[k + 1] = x) := hide ⟨_, rfl⟩
                clear hfin hd HE h95 h61 D1 D2 hlt'
                obtain ⟨x, hx⟩ : ∃ x, dig s[k + 1] = x := ⟨_, rfl⟩
                obtain ⟨y, hy⟩ : ∃ y, dig s[k + 2] = y := ⟨_, rfl⟩
                have Z1 := hide hx
                have Z2 := hide hy
                rw [hx] at HD1 HF g1 g1' l1
                rw [hy] at HD2 HF g2 g2' l2
                clear hx hy
                go_wp2_with fail
                refine (unhide HD1 _).mono ?_
                rintro e w1 ⟨rfl, rfl⟩
                go_wp2_with fail
                refine (unhide HD2 _).mono ?_
                rintro e w1 ⟨rfl, rfl⟩
                go_wp2
                obtain ⟨k1, hk1⟩ : ∃ k1, k + 1 = k1 := ⟨_, rfl⟩
                obtain ⟨k2, hk2⟩ : ∃ k2, k + 2 = k2 := ⟨_, rfl⟩
                have h1' : k1 < s.size := by omega
                have h2' : k2 < s.size := by omega
                have z1 : dig s[k1] = x := by subst hk1; exact unhide Z1
                have z2 : dig s[k2] = y := by subst hk2; exact unhide Z2
                have v1 : IntKind.i64.wrap ((k : Int) + 1) = (k1 : Int) := by rw [IntKind.wrap_i64]; omega
                have v2 : IntKind.i64.wrap ((k : Int) + 2) = (k2 : Int) := by rw [IntKind.wrap_i64]; omega
                obtain ⟨p, hp⟩ : ∃ p : Nat, 16 * x = p := ⟨_, rfl⟩
                obtain ⟨q, hq⟩ : ∃ q : Nat, p + y = q := ⟨_, rfl⟩
                have v3 : IntKind.i64.wrap (16 * (x : Int)) = (p : Int) := by rw [IntKind.wrap_i64]; omega
                have v4 : IntKind.i64.wrap ((p : Int) + (y : Int)) = (q : Int) := by rw [IntKind.wrap_i64]; omega
                have v5 : IntKind.u8.wrap (q : Int) = (q : Int) := by rw [IntKind.wrap_u8]; omega
                have hbyte : (q : Int) = ((UInt8.ofNat (16 * x + y)).toNat : Int) := by simp; omega
                have HY := hide hbyte
                have hk3 : k + 3 ≤ s.size := by omega
                have HK2 := hide hk2
                clear hbyte hk1 hk2 hp hq
                go_region_law (first
                  | (refine stepW_append rfl _ _ 36 rfl w.heap.size 5 i0 (.int .u8 0) 1 1 Tryz.underlying36 hi hz0 hz1 hz2 rfl (by decide) _ acc.length (Lib.byteCells acc) (by simp [Act.eval]) (hown.alloc _) ⟨w1.heap.size, 0, none⟩ 1 1 [.int .u8 (q : Int)] (by simp [Act.eval]) rfl (oneW_cell _ _ _) (by intro u hu; simp at hu; subst hu; rfl) (by unfold maxLen; omega) (by omega) (by simp; omega) ?_
                     intro v' w2 hown' hgrow)
                  | (go_simp; refine (refDigitW_any _ _).mono ?_; rintro e w1 ⟨rfl, rfl⟩; go_simp))
                all_goals
                  have hb3 := own_grown (wr := w1.drew) hown hgrow hbw.drew (by simpa using hbs)
                  rw [byteCells_snoc acc _ _ (unhide HY)] at hown'
                  go_simp
                  go_wp2
                  have hk2 := unhide HK2
                  exact ⟨⟨k + 3, f', acc ++ [UInt8.ofNat (16 * x + y)], by go_num, by omega, by simp; omega, by omega, HF, by simpa using hown', hb3⟩, by simp [intOf]; omega⟩
              · have g2' : (15 : Int) < (dig s[k + 2] : Int) := by omega
                rw [if_neg (fun h => g2 h.2)] at hfin
                simp only at hfin
                have HF := hide hfin
                have HD1 := hide D1
                have HD2 := hide D2
                clear hfin hd HE h95 h61 D1 D2 hlt'
                generalize dig s[k + 1] = x at HD1 g1 g1' l1
                generalize dig s[k + 2] = y at HD2 g2 g2' l2
                go_wp2_with fail
                refine (unhide HD1 _).mono ?_
                rintro e w1 ⟨rfl, rfl⟩
                go_wp2_with fail
                refine (unhide HD2 _).mono ?_
                rintro e w1 ⟨rfl, rfl⟩
                go_wp2
                go_ret2
                exact ⟨by rw [unhide HF]; rfl, hbw⟩
            · have g1' : (15 : Int) < (dig s[k + 1] : Int) := by omega
              rw [if_neg (fun h => g1 h.1)] at hfin
              simp only at hfin
              have HF := hide hfin
              have HD1 := hide D1
              clear hfin hd HE h95 h61 D1 D2 hlt'
              generalize dig s[k + 1] = x at HD1 g1 g1' l1
              go_wp2_with fail
              refine (unhide HD1 _).mono ?_
              rintro e w1 ⟨rfl, rfl⟩
              go_wp2
              go_ret2
              exact ⟨by rw [unhide HF]; rfl, hbw⟩
          · rw [if_pos (by omega)] at hfin
            have hge : (s.size : Int) ≤ (k : Int) + 2 := by omega
            have HF := hide hfin
            clear hfin hd HE h95 h61
            go_wp2
            go_ret2
            exact ⟨by rw [unhide HF]; rfl, hbw⟩
        · have e2 : ((s[k].toNat : Int) != 61) = true := by
            rw [bne_iff_ne]
            intro e
            exact h61 (UInt8.toNat_inj.mp (by have : (61 : UInt8).toNat = 61 := rfl; omega))
          rw [qA_else h61 h95] at hfin
          have HF := hide hfin
          clear hfin hd HE h95 h61
          go_wp2_with (at_builtin; refine wpList_append_own _ rfl _ _ 36 rfl w.heap.size 5 i0 (.int .u8 0) 1 1 Tryz.underlying36 hi hz0 hz1 hz2 rfl (by decide) _ _ _ rfl (hown.alloc _) ⟨wr.heap.size, 0, none⟩ 1 1 [.int .u8 (s[k].toNat : Int)] rfl rfl (oneW_cell _ _ _) (by intro u hu; simp at hu; subst hu; rfl) (by unfold maxLen; omega) (by omega) (by simp; omega) ?_)
          intro v' w2 hown' hgrow _
          have hb3 := own_grown hown hgrow hbw (by omega)
          rw [byteCells_snoc acc s[k] _ rfl] at hown'
          go_wp2
          exact ⟨⟨k + 1, f', acc ++ [s[k]], by go_num, by omega, by simp; omega, by omega, HF, by simpa using hown', hb3⟩, by simp [intOf]; omega⟩
    · have hlt' : ¬ (k : Int) < (s.size : Int) := by omega
      have hfin : fromQR s.data.toList = some acc := by
        rw [unhide HE, drop_end s (by omega)]
        rfl
      have HF := hide hfin
      have hcv := own_string hown
      clear hfin HE
      obtain ⟨q0, q1, q2, rfl⟩ : ∃ q0 q1 q2, u4 = .slice q0 q1 q2 := by rcases hown.2 with ⟨rfl, _⟩ | ⟨g, cap, cur, rfl, _⟩ <;> exact ⟨_, _, _, rfl⟩
      go_wp2
      go_ret2
      exact ⟨by rw [unhide HF]; rfl, hbw⟩
end Go.Proofs.YtdallfakfhajdaaGreatDoor

/-
  What the document's great, Named and Name of layer 6 do, over this seat's program.
-/
set_option linter.unusedVariables false
namespace Go.Proofs.YtdallfakfhajdaaGreatDoor
open Go.RowKit Go.Proofs.Rns

/-- The world has the bytes l in block b, from its first cell on, and none of them is frozen. -/
structure Bytes (w : World) (b : Nat) (l : List UInt8) : Prop where
  cell : ∀ j (h : j < l.length), w.cell? ⟨b, j, none⟩ = some (.int .u8 (l[j].toNat : Int))
  free : ∀ j, j < l.length → w.frozen? ⟨b, j, none⟩ = false

theorem bytes_new (w : World) (l : List UInt8) (cap : Nat) : Bytes (w.alloc (.cells (bytesRow (bts l) cap) 5 ((bytesRow (bts l) cap).size, (bytesRow (bts l) cap).size + 1))).drew w.heap.size l := by
  have hsz : l.length ≤ (bytesRow (bts l) cap).size := by
    simp [bytesRow, bts]
  refine ⟨fun j hj => ?_, fun j hj => ?_⟩
  · have := World.cell?_alloc_mark w.drew (bytesRow (bts l) cap) 5 ((bytesRow (bts l) cap).size, (bytesRow (bts l) cap).size + 1) j
    refine Eq.trans this ?_
    simp [bytesRow, bts, Array.getElem?_append, hj]
  · have hh : (w.alloc (.cells (bytesRow (bts l) cap) 5 ((bytesRow (bts l) cap).size, (bytesRow (bts l) cap).size + 1))).drew.heap[w.heap.size]? = some (.cells (bytesRow (bts l) cap) 5 ((bytesRow (bts l) cap).size, (bytesRow (bts l) cap).size + 1)) := by
      show (w.heap.push _)[w.heap.size]? = _
      simp
    unfold World.frozen?
    simp only [hh]
    simp
    omega

theorem Bytes.set {w : World} {b : Nat} {l : List UInt8} (h : Bytes w b l) (t : Nat) (ht : t < l.length) (z : UInt8) : Bytes (w.setCell ⟨b, t, none⟩ (.int .u8 (z.toNat : Int))) b (l.set t z) := by
  refine ⟨fun j hj => ?_, fun j hj => ?_⟩
  · have hj' : j < l.length := by simpa using hj
    by_cases e : j = t
    · subst e
      rw [World.cell?_setCell_same _ _ _ (h.cell j ht), List.getElem_set_self]
    · rw [World.cell?_setCell_other _ _ _ _ (by intro hh; have h3 := congrArg Addr.off hh; simp at h3; omega), h.cell j hj', List.getElem_set_ne (by omega)]
  · have hj' : j < l.length := by simpa using hj
    rw [World.frozen?_setCell]; exact h.free j hj'

/-- The first k great, the rest as they were. -/
def gre (k : Nat) (l : List UInt8) : List UInt8 := (l.take k).map upB ++ l.drop k
theorem gre_len (k : Nat) (l : List UInt8) : (gre k l).length = l.length := by simp [gre]; omega
theorem gre_at (k : Nat) (l : List UInt8) (h : k < l.length) : (gre k l)[k]'(by rw [gre_len]; exact h) = l[k] := by
  unfold gre
  rw [List.getElem_append_right (by simp; omega)]
  simp [Nat.min_eq_left (Nat.le_of_lt h)]
theorem gre_next (k : Nat) (l : List UInt8) (h : k < l.length) : gre (k + 1) l = (gre k l).set k (upB l[k]) := by
  unfold gre
  rw [List.set_append_right _ _ (by simp; omega)]
  simp only [List.length_map, List.length_take, Nat.min_eq_left (Nat.le_of_lt h), Nat.sub_self]
  rw [List.drop_eq_getElem_cons h, List.set_cons_zero, List.take_succ_eq_append_getElem h]
  simp only [List.map_append, List.map_cons, List.map_nil, List.append_assoc, List.cons_append, List.nil_append]
theorem gre_same (k : Nat) (l : List UInt8) (h : k < l.length) (hu : upB l[k] = l[k]) : gre (k + 1) l = gre k l := by
  rw [gre_next k l h, hu]
  conv => lhs; rw [← gre_at k l h]
  rw [List.set_getElem_self]
theorem gre_all (l : List UInt8) (k : Nat) (h : l.length ≤ k) : gre k l = l.map upB := by simp [gre, List.take_of_length_le h, List.drop_eq_nil_of_le h]

set_option maxHeartbeats 1000000 in
set_option maxRecDepth 100000 in
theorem great_l (L : List UInt8) (w : World) (hs : L.length ≤ 1099511627776) :
    Calls Tryz.prog 71 #[.string (bts L)] w fun e w' => e = .returned (.string (bts (L.map upB))) ∧ Below w.heap.size w w' := by
  have hsb := size_bts L
  have kc := fun (w : World) => run_bytes_of_string (P := Tryz.prog) w 9 36 5 (bts L) Tryz.underlying9 Tryz.underlying36 Tryz.underlying5
  rw [hsb] at kc
  go_enter Tryz.func71, Tryz.ntmps71
  go_upto_region 2 with (fail)
  have HB := hide (bytes_new w L (grownCap w L.length 0 5))
  have bN : Below w.heap.size w (w.alloc (.cells (bytesRow (bts L) (grownCap w L.length 0 5)) 5 ((bytesRow (bts L) (grownCap w L.length 0 5)).size, (bytesRow (bts L) (grownCap w L.length 0 5)).size + 1))).drew := ((Below.refl _ w).alloc (Nat.le_refl _) _).drew
  obtain ⟨W, hW⟩ : ∃ W, W = (w.alloc (.cells (bytesRow (bts L) (grownCap w L.length 0 5)) 5 ((bytesRow (bts L) (grownCap w L.length 0 5)).size, (bytesRow (bts L) (grownCap w L.length 0 5)).size + 1))).drew := ⟨_, rfl⟩
  rw [← hW] at HB bN ⊢
  clear hW kc
  generalize grownCap w L.length 0 5 = cap
  obtain ⟨B, hB⟩ : ∃ B, B = w.heap.size := ⟨_, rfl⟩
  rw [← hB] at HB bN ⊢
  have HBE := hide hB
  clear hB hsb
  go_wp2
  go_loopw [4, 5, 10] (fun x y z wr => ∃ k : Nat, z = .int .i64 k ∧ k ≤ L.length ∧ Bytes wr B (gre k L) ∧ Below B w wr) (fun _ _ z _ => L.length - (intOf z).toNat)
  case atStart => exact ⟨0, rfl, Nat.zero_le _, by simpa [gre] using unhide HB, bN⟩
  case round =>
    obtain ⟨k, rfl, hk, hby, hbw⟩ := hrel
    by_cases hlt : k < L.length
    · have hcc := hby.cell k (by rw [gre_len]; exact hlt)
      rw [gre_at k L hlt] at hcc
      have hfz := hby.free k (by rw [gre_len]; exact hlt)
      have hlt' : (k : Int) < (L.length : Int) := by omega
      have hc := L[k].toNat_lt
      by_cases h12 : 97 ≤ L[k].toNat ∧ L[k].toNat ≤ 122
      · have hup : ((L[k].toNat : Int) - 32) = ((upB L[k]).toNat : Int) := by
          unfold upB
          rw [if_pos h12]
          simp; omega
        have hn := hby.set k (by rw [gre_len]; exact hlt) (upB L[k])
        rw [← gre_next k L hlt, ← hup] at hn
        have HN := hide hn
        have HB2 := hide (hbw.setCell (p := ⟨B, k, none⟩) (Nat.le_refl _) (.int .u8 ((L[k].toNat : Int) - 32)))
        have h1 := h12.1
        have h2 := h12.2
        clear hn hup h12 hby hbw
        generalize L[k].toNat = c at hcc HN HB2 h1 h2 hc
        go_wp2
        exact ⟨⟨k + 1, by go_num, by omega, unhide HN, unhide HB2⟩, by simp [intOf]; omega⟩
      · have hup : upB L[k] = L[k] := by unfold upB; rw [if_neg h12]
        have HN := hide (show Bytes wr B (gre (k + 1) L) by rw [gre_same k L hlt hup]; exact hby)
        have HB2 := hide hbw
        clear hup hby hbw
        generalize L[k].toNat = c at hcc h12 hc
        by_cases h1 : 97 ≤ c
        · have h2 : ¬ c ≤ 122 := fun x => h12 ⟨h1, x⟩
          clear h12
          go_wp2
          exact ⟨⟨k + 1, by go_num, by omega, unhide HN, unhide HB2⟩, by simp [intOf]; omega⟩
        · clear h12
          go_wp2
          exact ⟨⟨k + 1, by go_num, by omega, unhide HN, unhide HB2⟩, by simp [intOf]; omega⟩
    · have hlt' : ¬ (k : Int) < (L.length : Int) := by omega
      rw [gre_all L k (by omega)] at hby
      have hcs : ∀ j (hj : j < (L.map upB).length), wr.cell? (Addr.add ⟨B, 0, none⟩ j) = some (.int .u8 ((L.map upB)[j].toNat : Int)) := by
        intro j hj
        have hadd : Addr.add ⟨B, 0, none⟩ j = ⟨B, j, none⟩ := by simp only [Addr.add, Nat.zero_add]; split <;> simp_all
        rw [hadd]
        exact hby.cell j hj
      have hcv := run_convert_bytes_back (P := Tryz.prog) wr 36 9 5 ⟨B, 0, none⟩ cap (L.map upB) Tryz.underlying36 Tryz.underlying5 Tryz.underlying9 hcs
      rw [List.length_map, show ({ data := (L.map upB).toArray } : ByteArray) = bts (L.map upB) from rfl] at hcv
      have HB2 := hide hbw
      clear hcs hby hbw
      obtain ⟨x, hx⟩ : ∃ x, x = bts (L.map upB) := ⟨_, rfl⟩
      rw [← hx] at hcv
      have HX := hide hx
      clear hx
      go_wp2
      go_ret
      exact ⟨by rw [← unhide HX]; rfl, by rw [← unhide HBE]; exact unhide HB2⟩

theorem great_any (s : ByteArray) (w : World) (hs : s.size ≤ 1099511627776) :
    Calls Tryz.prog 71 #[.string s] w fun e w' => e = .returned (.string (bts (s.data.toList.map upB))) ∧ Below w.heap.size w w' := by
  have h := great_l s.data.toList w (by rw [sizeL]; exact hs)
  rw [bts_toList] at h
  exact h

set_option maxHeartbeats 2000000 in
set_option maxRecDepth 100000 in
/-- The document's Named. -/
theorem refNamed_any (s : ByteArray) (w : World) (hs : s.size ≤ 1099511627776) :
    Calls Tryz.prog 30 #[.string s] w fun e w' => e = .returned (.tuple #[.int .u8 (namedR s.data.toList).1, .int .i64 (namedR s.data.toList).2]) ∧ Below w.heap.size w w' := by
  have hg := fun W => great_any s W hs
  have hx : (bts (s.data.toList.map upB)).toList = s.data.toList.map upB := by rw [ByteArray.toList_eq, toList_bts]
  unfold namedR
  generalize s.data.toList.map upB = u at hg hx ⊢
  generalize bts u = x at hg hx
  have HG := hide hg
  have HX := hide hx
  clear hg hx
  by_cases h0 : u = [85, 83, 45, 65, 83, 67, 73, 73]
  · have hb : (x.toList == [85, 83, 45, 65, 83, 67, 73, 73]) = true := by rw [unhide HX, h0]; rfl
    rw [show namedF u namesT = (1, 0) by rw [h0]; decide +kernel]
    clear h0
    go_enter Tryz.func30, Tryz.ntmps30
    go_wp2_with fail
    refine (unhide HG _).mono ?_
    rintro e w1 ⟨rfl, b1⟩
    go_wp2
    go_ret2
    exact ⟨rfl, b1⟩
  have b0x : (x.toList == [85, 83, 45, 65, 83, 67, 73, 73]) = false := by rw [unhide HX]; exact beq_eq_false_iff_ne.2 h0
  by_cases h1 : u = [65, 83, 67, 73, 73]
  · have hb : (x.toList == [65, 83, 67, 73, 73]) = true := by rw [unhide HX, h1]; rfl
    rw [show namedF u namesT = (1, 0) by rw [h1]; decide +kernel]
    clear h0 h1
    go_enter Tryz.func30, Tryz.ntmps30
    go_wp2_with fail
    refine (unhide HG _).mono ?_
    rintro e w1 ⟨rfl, b1⟩
    go_wp2
    go_ret2
    exact ⟨rfl, b1⟩
  have b1x : (x.toList == [65, 83, 67, 73, 73]) = false := by rw [unhide HX]; exact beq_eq_false_iff_ne.2 h1
  by_cases h2 : u = [85, 84, 70, 45, 56]
  · have hb : (x.toList == [85, 84, 70, 45, 56]) = true := by rw [unhide HX, h2]; rfl
    rw [show namedF u namesT = (2, 0) by rw [h2]; decide +kernel]
    clear h0 h1 h2
    go_enter Tryz.func30, Tryz.ntmps30
    go_wp2_with fail
    refine (unhide HG _).mono ?_
    rintro e w1 ⟨rfl, b1⟩
    go_wp2
    go_ret2
    exact ⟨rfl, b1⟩
  have b2x : (x.toList == [85, 84, 70, 45, 56]) = false := by rw [unhide HX]; exact beq_eq_false_iff_ne.2 h2
  by_cases h3 : u = [85, 84, 70, 56]
  · have hb : (x.toList == [85, 84, 70, 56]) = true := by rw [unhide HX, h3]; rfl
    rw [show namedF u namesT = (2, 0) by rw [h3]; decide +kernel]
    clear h0 h1 h2 h3
    go_enter Tryz.func30, Tryz.ntmps30
    go_wp2_with fail
    refine (unhide HG _).mono ?_
    rintro e w1 ⟨rfl, b1⟩
    go_wp2
    go_ret2
    exact ⟨rfl, b1⟩
  have b3x : (x.toList == [85, 84, 70, 56]) = false := by rw [unhide HX]; exact beq_eq_false_iff_ne.2 h3
  by_cases h4 : u = [73, 83, 79, 45, 56, 56, 53, 57, 45, 49]
  · have hb : (x.toList == [73, 83, 79, 45, 56, 56, 53, 57, 45, 49]) = true := by rw [unhide HX, h4]; rfl
    rw [show namedF u namesT = (3, 0) by rw [h4]; decide +kernel]
    clear h0 h1 h2 h3 h4
    go_enter Tryz.func30, Tryz.ntmps30
    go_wp2_with fail
    refine (unhide HG _).mono ?_
    rintro e w1 ⟨rfl, b1⟩
    go_wp2
    go_ret2
    exact ⟨rfl, b1⟩
  have b4x : (x.toList == [73, 83, 79, 45, 56, 56, 53, 57, 45, 49]) = false := by rw [unhide HX]; exact beq_eq_false_iff_ne.2 h4
  by_cases h5 : u = [76, 65, 84, 73, 78, 49]
  · have hb : (x.toList == [76, 65, 84, 73, 78, 49]) = true := by rw [unhide HX, h5]; rfl
    rw [show namedF u namesT = (3, 0) by rw [h5]; decide +kernel]
    clear h0 h1 h2 h3 h4 h5
    go_enter Tryz.func30, Tryz.ntmps30
    go_wp2_with fail
    refine (unhide HG _).mono ?_
    rintro e w1 ⟨rfl, b1⟩
    go_wp2
    go_ret2
    exact ⟨rfl, b1⟩
  have b5x : (x.toList == [76, 65, 84, 73, 78, 49]) = false := by rw [unhide HX]; exact beq_eq_false_iff_ne.2 h5
  by_cases h6 : u = [73, 83, 79, 45, 56, 56, 53, 57, 45, 49, 53]
  · have hb : (x.toList == [73, 83, 79, 45, 56, 56, 53, 57, 45, 49, 53]) = true := by rw [unhide HX, h6]; rfl
    rw [show namedF u namesT = (4, 0) by rw [h6]; decide +kernel]
    clear h0 h1 h2 h3 h4 h5 h6
    go_enter Tryz.func30, Tryz.ntmps30
    go_wp2_with fail
    refine (unhide HG _).mono ?_
    rintro e w1 ⟨rfl, b1⟩
    go_wp2
    go_ret2
    exact ⟨rfl, b1⟩
  have b6x : (x.toList == [73, 83, 79, 45, 56, 56, 53, 57, 45, 49, 53]) = false := by rw [unhide HX]; exact beq_eq_false_iff_ne.2 h6
  by_cases h7 : u = [76, 65, 84, 73, 78, 57]
  · have hb : (x.toList == [76, 65, 84, 73, 78, 57]) = true := by rw [unhide HX, h7]; rfl
    rw [show namedF u namesT = (4, 0) by rw [h7]; decide +kernel]
    clear h0 h1 h2 h3 h4 h5 h6 h7
    go_enter Tryz.func30, Tryz.ntmps30
    go_wp2_with fail
    refine (unhide HG _).mono ?_
    rintro e w1 ⟨rfl, b1⟩
    go_wp2
    go_ret2
    exact ⟨rfl, b1⟩
  have b7x : (x.toList == [76, 65, 84, 73, 78, 57]) = false := by rw [unhide HX]; exact beq_eq_false_iff_ne.2 h7
  by_cases h8 : u = [87, 73, 78, 68, 79, 87, 83, 45, 49, 50, 53, 50]
  · have hb : (x.toList == [87, 73, 78, 68, 79, 87, 83, 45, 49, 50, 53, 50]) = true := by rw [unhide HX, h8]; rfl
    rw [show namedF u namesT = (5, 0) by rw [h8]; decide +kernel]
    clear h0 h1 h2 h3 h4 h5 h6 h7 h8
    go_enter Tryz.func30, Tryz.ntmps30
    go_wp2_with fail
    refine (unhide HG _).mono ?_
    rintro e w1 ⟨rfl, b1⟩
    go_wp2
    go_ret2
    exact ⟨rfl, b1⟩
  have b8x : (x.toList == [87, 73, 78, 68, 79, 87, 83, 45, 49, 50, 53, 50]) = false := by rw [unhide HX]; exact beq_eq_false_iff_ne.2 h8
  by_cases h9 : u = [67, 80, 49, 50, 53, 50]
  · have hb : (x.toList == [67, 80, 49, 50, 53, 50]) = true := by rw [unhide HX, h9]; rfl
    rw [show namedF u namesT = (5, 0) by rw [h9]; decide +kernel]
    clear h0 h1 h2 h3 h4 h5 h6 h7 h8 h9
    go_enter Tryz.func30, Tryz.ntmps30
    go_wp2_with fail
    refine (unhide HG _).mono ?_
    rintro e w1 ⟨rfl, b1⟩
    go_wp2
    go_ret2
    exact ⟨rfl, b1⟩
  have b9x : (x.toList == [67, 80, 49, 50, 53, 50]) = false := by rw [unhide HX]; exact beq_eq_false_iff_ne.2 h9
  rw [show namedF u namesT = (0, 14) by simp only [namesT, namedF, if_neg h0, if_neg h1, if_neg h2, if_neg h3, if_neg h4, if_neg h5, if_neg h6, if_neg h7, if_neg h8, if_neg h9]]
  clear h0 h1 h2 h3 h4 h5 h6 h7 h8 h9
  go_enter Tryz.func30, Tryz.ntmps30
  go_wp2_with fail
  refine (unhide HG _).mono ?_
  rintro e w1 ⟨rfl, b1⟩
  go_wp2
  go_ret2
  exact ⟨rfl, b1⟩

set_option maxHeartbeats 1000000 in
set_option maxRecDepth 100000 in
/-- The document's Name. -/
theorem refNameG_any (c : Nat) (w : World) (hc : c < 256) :
    Calls Tryz.prog 74 #[.int .u8 c] w fun e w' => e = .returned (.tuple #[.string (bts (nameR c).1), .int .i64 (nameR c).2]) ∧ w' = w := by
  by_cases h1 : c = 1
  · have hb : ((c : Int) == 1) = true := by rw [h1]; rfl
    rw [show nameR c = ([85, 83, 45, 65, 83, 67, 73, 73], 0) by rw [h1]; decide +kernel]
    clear h1
    go_enter Tryz.func74, Tryz.ntmps74
    go_wp2
    go_ret2
    exact ⟨rfl, rfl⟩
  have b1x : ((c : Int) == 1) = false := by simp; omega
  by_cases h2 : c = 2
  · have hb : ((c : Int) == 2) = true := by rw [h2]; rfl
    rw [show nameR c = ([85, 84, 70, 45, 56], 0) by rw [h2]; decide +kernel]
    clear h1 h2
    go_enter Tryz.func74, Tryz.ntmps74
    go_wp2
    go_ret2
    exact ⟨rfl, rfl⟩
  have b2x : ((c : Int) == 2) = false := by simp; omega
  by_cases h3 : c = 3
  · have hb : ((c : Int) == 3) = true := by rw [h3]; rfl
    rw [show nameR c = ([73, 83, 79, 45, 56, 56, 53, 57, 45, 49], 0) by rw [h3]; decide +kernel]
    clear h1 h2 h3
    go_enter Tryz.func74, Tryz.ntmps74
    go_wp2
    go_ret2
    exact ⟨rfl, rfl⟩
  have b3x : ((c : Int) == 3) = false := by simp; omega
  by_cases h4 : c = 4
  · have hb : ((c : Int) == 4) = true := by rw [h4]; rfl
    rw [show nameR c = ([73, 83, 79, 45, 56, 56, 53, 57, 45, 49, 53], 0) by rw [h4]; decide +kernel]
    clear h1 h2 h3 h4
    go_enter Tryz.func74, Tryz.ntmps74
    go_wp2
    go_ret2
    exact ⟨rfl, rfl⟩
  have b4x : ((c : Int) == 4) = false := by simp; omega
  by_cases h5 : c = 5
  · have hb : ((c : Int) == 5) = true := by rw [h5]; rfl
    rw [show nameR c = ([87, 73, 78, 68, 79, 87, 83, 45, 49, 50, 53, 50], 0) by rw [h5]; decide +kernel]
    clear h1 h2 h3 h4 h5
    go_enter Tryz.func74, Tryz.ntmps74
    go_wp2
    go_ret2
    exact ⟨rfl, rfl⟩
  have b5x : ((c : Int) == 5) = false := by simp; omega
  rw [show nameR c = ([], 14) by simp only [nameR, nameF, namesT, if_neg (show ¬ 1 = c from fun e => h1 e.symm), if_neg (show ¬ 2 = c from fun e => h2 e.symm), if_neg (show ¬ 3 = c from fun e => h3 e.symm), if_neg (show ¬ 4 = c from fun e => h4 e.symm), if_neg (show ¬ 5 = c from fun e => h5 e.symm)]]
  clear h1 h2 h3 h4 h5
  go_enter Tryz.func74, Tryz.ntmps74
  go_wp2
  go_ret2
  exact ⟨rfl, rfl⟩
end Go.Proofs.YtdallfakfhajdaaGreatDoor

/-
  What the document's windows and Of of layer 6 do, over this seat's program.
-/
set_option linter.unusedVariables false
namespace Go.Proofs.YtdallfakfhajdaaGreatDoor
open Go.RowKit Go.Proofs.Rns

set_option maxHeartbeats 400000 in
set_option maxRecDepth 100000 in
theorem windows_any (w : World) : Calls Tryz.prog 119 #[] w fun e w' => ∃ v, e = .returned v ∧ RowI w' v (ints winT) ∧ Below w.heap.size w w' := by
  go_enter Tryz.func119, Tryz.ntmps119
  go_wp2
  go_ret
  exact ⟨_, rfl, lit_rowI w (ints winT) _ rfl (by decide) 32 rfl, (Below.refl _ w).alloc (Nat.le_refl _) _⟩

theorem ofB4 : ∀ b : Fin 256, b.val = 164 ∨ b.val = 166 ∨ b.val = 168 ∨ b.val = 180 ∨ b.val = 184 ∨ b.val = 188 ∨ b.val = 189 ∨ b.val = 190 ∨ ofB 4 b.val = b.val := by decide +kernel
theorem ofB_else {c b : Nat} (h1 : c ≠ 1) (h4 : c ≠ 4) (h5 : ¬ (c = 5 ∧ b < 160)) : ofB c b = b := by
  unfold ofB
  by_cases h : b < 128
  · rw [if_pos h]
  · rw [if_neg h, if_neg h1, if_neg h5, if_neg (fun x => h4 x.1)]
theorem win_len : (ints winT).length = 32 := rfl

set_option maxHeartbeats 2000000 in
set_option maxRecDepth 100000 in
/-- The document's Of. -/
theorem refOf_any (c b : Nat) (w : World) (hc : c < 256) (hb : b < 256) :
    Calls Tryz.prog 76 #[.int .u8 c, .int .u8 b] w fun e w' => e = .returned (.int .i32 (ofB c b)) ∧ Below w.heap.size w w' := by
  by_cases h128 : b < 128
  · rw [ofB_low h128]
    have q128 : (b : Int) < 128 := by omega
    go_enter Tryz.func76, Tryz.ntmps76
    go_wp2
    go_ret
    exact ⟨rfl, Below.refl _ _⟩
  have q128 : ¬ (b : Int) < 128 := by omega
  by_cases h1 : c = 1
  · rw [show ofB c b = 65533 by rw [ofB, if_neg h128, if_pos h1]]
    have e1 : ((c : Int) == 1) = true := by rw [h1]; rfl
    go_enter Tryz.func76, Tryz.ntmps76
    go_wp2
    go_ret
    exact ⟨rfl, Below.refl _ _⟩
  have e1 : ((c : Int) == 1) = false := by simp; omega
  by_cases h5 : c = 5
  · have e5 : ((c : Int) == 5) = true := by rw [h5]; rfl
    have e4 : ((c : Int) == 4) = false := by simp; omega
    by_cases h160 : b < 160
    · have q160 : (b : Int) < 160 := by omega
      have hof : (ofB c b : Int) = (ints winT)[b - 128]'(by rw [win_len]; omega) := by rw [ofB, if_neg h128, if_neg h1, if_pos ⟨h5, h160⟩]; simp [ints, List.getD, List.getElem?_eq_getElem (show b - 128 < winT.length by show b - 128 < 32; omega)]
      have HL := hide win_len
      clear h5 h1 e4
      have hk : b - 128 < (ints winT).length := by rw [win_len]; omega
      have HWI := hide (fun W => windows_any W)
      have HK := hide hk
      obtain ⟨l, hl⟩ : ∃ l, l = ints winT := ⟨_, rfl⟩
      obtain ⟨x, hx⟩ : ∃ x : Int, x = (ofB c b : Int) := ⟨_, rfl⟩
      have HX := hide (show ∀ (h : b - 128 < l.length), l[b - 128] = x by subst hl; intro h; rw [hx, hof])
      rw [← hx]
      rw [← hl] at HL HWI HK
      clear hx hl hk hof
      go_enter Tryz.func76, Tryz.ntmps76
      go_wp2_with fail
      refine (unhide HWI _).mono ?_
      rintro e w1 ⟨v, rfl, hrow, b1⟩
      obtain ⟨a, cap, rfl, _, hcl⟩ := hrow
      have hcx : ∃ g off, a = some ⟨g, off, none⟩ ∧ w1.cell? ⟨g, off + (b - 128), none⟩ = some (.int .i32 x) := by
        rcases hcl with h | ⟨g, off, ha, _, hcj⟩
        · subst h; exact absurd (unhide HL) (by simp)
        · exact ⟨g, off, ha, by rw [← unhide HX (unhide HK)]; exact hcj _ (unhide HK)⟩
      obtain ⟨g, off, rfl, hcx⟩ := hcx
      rw [unhide HL]
      obtain ⟨k, rfl⟩ : ∃ k, b = k + 128 := ⟨b - 128, by omega⟩
      rw [Nat.add_sub_cancel] at hcx
      have hk2 : k < 32 := by omega
      have hsub : (((k + 128 : Nat) : Int) - 128) = (k : Int) := by omega
      clear hcl HX HK HWI HL
      go_wp2
      go_ret
      exact ⟨rfl, b1⟩
    · have q160 : ¬ (b : Int) < 160 := by omega
      rw [ofB_else h1 (by omega) (fun x => h160 x.2)]
      clear h5 h1
      go_enter Tryz.func76, Tryz.ntmps76
      go_wp2
      go_ret
      exact ⟨rfl, Below.refl _ _⟩
  have e5 : ((c : Int) == 5) = false := by simp; omega
  by_cases h4 : c = 4
  · have e4 : ((c : Int) == 4) = true := by rw [h4]; rfl
    by_cases g164 : b = 164
    · rw [show ofB c b = 8364 by rw [h4, g164]; decide +kernel]
      have f164 : ((b : Int) == 164) = true := by rw [g164]; rfl
      go_enter Tryz.func76, Tryz.ntmps76
      go_wp2
      go_ret
      exact ⟨rfl, Below.refl _ _⟩
    have f164 : ((b : Int) == 164) = false := by simp; omega
    by_cases g166 : b = 166
    · rw [show ofB c b = 352 by rw [h4, g166]; decide +kernel]
      have f166 : ((b : Int) == 166) = true := by rw [g166]; rfl
      go_enter Tryz.func76, Tryz.ntmps76
      go_wp2
      go_ret
      exact ⟨rfl, Below.refl _ _⟩
    have f166 : ((b : Int) == 166) = false := by simp; omega
    by_cases g168 : b = 168
    · rw [show ofB c b = 353 by rw [h4, g168]; decide +kernel]
      have f168 : ((b : Int) == 168) = true := by rw [g168]; rfl
      go_enter Tryz.func76, Tryz.ntmps76
      go_wp2
      go_ret
      exact ⟨rfl, Below.refl _ _⟩
    have f168 : ((b : Int) == 168) = false := by simp; omega
    by_cases g180 : b = 180
    · rw [show ofB c b = 381 by rw [h4, g180]; decide +kernel]
      have f180 : ((b : Int) == 180) = true := by rw [g180]; rfl
      go_enter Tryz.func76, Tryz.ntmps76
      go_wp2
      go_ret
      exact ⟨rfl, Below.refl _ _⟩
    have f180 : ((b : Int) == 180) = false := by simp; omega
    by_cases g184 : b = 184
    · rw [show ofB c b = 382 by rw [h4, g184]; decide +kernel]
      have f184 : ((b : Int) == 184) = true := by rw [g184]; rfl
      go_enter Tryz.func76, Tryz.ntmps76
      go_wp2
      go_ret
      exact ⟨rfl, Below.refl _ _⟩
    have f184 : ((b : Int) == 184) = false := by simp; omega
    by_cases g188 : b = 188
    · rw [show ofB c b = 338 by rw [h4, g188]; decide +kernel]
      have f188 : ((b : Int) == 188) = true := by rw [g188]; rfl
      go_enter Tryz.func76, Tryz.ntmps76
      go_wp2
      go_ret
      exact ⟨rfl, Below.refl _ _⟩
    have f188 : ((b : Int) == 188) = false := by simp; omega
    by_cases g189 : b = 189
    · rw [show ofB c b = 339 by rw [h4, g189]; decide +kernel]
      have f189 : ((b : Int) == 189) = true := by rw [g189]; rfl
      go_enter Tryz.func76, Tryz.ntmps76
      go_wp2
      go_ret
      exact ⟨rfl, Below.refl _ _⟩
    have f189 : ((b : Int) == 189) = false := by simp; omega
    by_cases g190 : b = 190
    · rw [show ofB c b = 376 by rw [h4, g190]; decide +kernel]
      have f190 : ((b : Int) == 190) = true := by rw [g190]; rfl
      go_enter Tryz.func76, Tryz.ntmps76
      go_wp2
      go_ret
      exact ⟨rfl, Below.refl _ _⟩
    have f190 : ((b : Int) == 190) = false := by simp; omega
    rw [show ofB c b = b by rw [h4]; have h := ofB4 ⟨b, hb⟩; simp only at h; omega]
    clear h4 h5 h1 g164 g166 g168 g180 g184 g188 g189 g190
    go_enter Tryz.func76, Tryz.ntmps76
    go_wp2
    go_ret
    exact ⟨rfl, Below.refl _ _⟩
  · have e4 : ((c : Int) == 4) = false := by simp; omega
    rw [ofB_else h1 h4 (fun x => h5 x.1)]
    clear h1 h4 h5
    go_enter Tryz.func76, Tryz.ntmps76
    go_wp2
    go_ret
    exact ⟨rfl, Below.refl _ _⟩
end Go.Proofs.YtdallfakfhajdaaGreatDoor

/-
  What the document's one of layer 6 does, over this seat's program.
-/
set_option linter.unusedVariables false
namespace Go.Proofs.YtdallfakfhajdaaGreatDoor
open Go.RowKit Go.Proofs.Rns

/-- A literal of bytes, as a string. -/
theorem lit_conv (w : World) (xs : List Int) (hx : ∀ x ∈ xs, 0 ≤ x ∧ x ≤ 255) (cs : Array Value) (hcs : cs = (xs.map fun x => Value.int .u8 x).toArray) (m : Nat) (hm : m = xs.length) :
    (convert 36 9 (.slice (some ⟨w.heap.size, 0, none⟩) m m)).run Tryz.prog (w.alloc (.cells cs 5)) = .ok (.string (bts (xs.map fun x => x.toNat.toUInt8))) (w.alloc (.cells cs 5)) := by
  subst hm
  have hl : xs.length = (xs.map fun x => x.toNat.toUInt8).length := by simp
  have h := run_convert_bytes_back (P := Tryz.prog) (w.alloc (.cells cs 5)) 36 9 5 ⟨w.heap.size, 0, none⟩ xs.length (xs.map fun x => x.toNat.toUInt8) Tryz.underlying36 Tryz.underlying5 Tryz.underlying9 (fun j hj => by
    have hj' : j < xs.length := by simpa using hj
    have hadd : Addr.add ⟨w.heap.size, 0, none⟩ j = ⟨w.heap.size, j, none⟩ := by simp only [Addr.add, Nat.zero_add]; split <;> simp_all
    rw [hadd]
    have hB : Blk (w.alloc (.cells cs 5)) w.heap.size 5 cs := Blk.new w _ _
    rw [Blk.cell hB, hcs]
    have hr := hx xs[j] (List.getElem_mem hj')
    simp [List.getElem?_eq_getElem hj']
    omega)
  rw [← hl] at h
  exact h

set_option maxHeartbeats 1000000 in
set_option maxRecDepth 100000 in
/-- The document's one. -/
theorem oneB_any (n : Int) (w : World) (h : isL n = true) :
    Calls Tryz.prog 85 #[.int .i32 n] w fun e w' => e = .returned (.string (bts (Lib.encodeRune n))) ∧ Below w.heap.size w w' := by
  have hn : 0 ≤ n ∧ n ≤ 1114111 ∧ (n < 55296 ∨ 57343 < n) := by simpa [isL] using h
  clear h
  obtain ⟨h0, h1, hs⟩ := hn
  have hb : Below w.heap.size w w := Below.refl _ _
  by_cases q1 : n < 128
  · have hc := lit_conv w [n] (by simp; omega) _ rfl 1 rfl
    rw [show Lib.encodeRune n = [n].map fun x => x.toNat.toUInt8 by unfold Lib.encodeRune; rw [Lib.encodeRuneZ_one h0 (by omega)]]
    generalize bts ([n].map fun x => x.toNat.toUInt8) = x at hc ⊢
    simp only [List.map_cons, List.map_nil] at hc
    clear hs
    go_enter Tryz.func85, Tryz.ntmps85
    go_wp2
    go_ret
    exact ⟨rfl, hb.alloc (Nat.le_refl _) _⟩
  by_cases q2 : n < 2048
  · have hc := lit_conv w [192 + n / 64, 128 + n % 64] (by simp; omega) _ rfl 2 rfl
    rw [show Lib.encodeRune n = [192 + n / 64, 128 + n % 64].map fun x => x.toNat.toUInt8 by unfold Lib.encodeRune; rw [Lib.encodeRuneZ_two (by omega) (by omega)]]
    generalize bts ([192 + n / 64, 128 + n % 64].map fun x => x.toNat.toUInt8) = x at hc ⊢
    simp only [List.map_cons, List.map_nil] at hc
    clear hs
    go_enter Tryz.func85, Tryz.ntmps85
    go_wp2
    go_ret
    exact ⟨rfl, hb.alloc (Nat.le_refl _) _⟩
  by_cases q3 : n < 65536
  · have hc := lit_conv w [224 + n / 4096, 128 + n / 64 % 64, 128 + n % 64] (by simp; omega) _ rfl 3 rfl
    rw [show Lib.encodeRune n = [224 + n / 4096, 128 + n / 64 % 64, 128 + n % 64].map fun x => x.toNat.toUInt8 by unfold Lib.encodeRune; rw [Lib.encodeRuneZ_three (by omega)]]
    generalize bts ([224 + n / 4096, 128 + n / 64 % 64, 128 + n % 64].map fun x => x.toNat.toUInt8) = x at hc ⊢
    simp only [List.map_cons, List.map_nil] at hc
    clear hs
    go_enter Tryz.func85, Tryz.ntmps85
    go_wp2
    go_ret
    exact ⟨rfl, hb.alloc (Nat.le_refl _) _⟩
  · have hc := lit_conv w [240 + n / 262144, 128 + n / 4096 % 64, 128 + n / 64 % 64, 128 + n % 64] (by simp; omega) _ rfl 4 rfl
    rw [show Lib.encodeRune n = [240 + n / 262144, 128 + n / 4096 % 64, 128 + n / 64 % 64, 128 + n % 64].map fun x => x.toNat.toUInt8 by unfold Lib.encodeRune; rw [Lib.encodeRuneZ_four (by omega) (by omega)]]
    generalize bts ([240 + n / 262144, 128 + n / 4096 % 64, 128 + n / 64 % 64, 128 + n % 64].map fun x => x.toNat.toUInt8) = x at hc ⊢
    simp only [List.map_cons, List.map_nil] at hc
    clear hs
    go_enter Tryz.func85, Tryz.ntmps85
    go_wp2
    go_ret
    exact ⟨rfl, hb.alloc (Nat.le_refl _) _⟩
end Go.Proofs.YtdallfakfhajdaaGreatDoor

/-
  The document's way to read a letter of UTF-8, in plain mathematics: it is the letter that the bytes begin with.
-/
namespace Go.Proofs.Nxr
open Go.Proofs.Rns
open Go.Lib (decodeN encodeRune encodeRuneZ)

/-- How many bytes a first byte asks for, and what it is of the number. -/
def manyR (c : Nat) : Nat := if 240 ≤ c ∧ c < 248 then 4 else if 224 ≤ c ∧ c < 240 then 3 else if 192 ≤ c ∧ c < 224 then 2 else 1
def leadR (c : Nat) : Nat := if 240 ≤ c ∧ c < 248 then c - 240 else if 224 ≤ c ∧ c < 240 then c - 224 else if 192 ≤ c ∧ c < 224 then c - 192 else c
/-- The number behind k + 1 bytes. -/
def numR (s : List UInt8) : Nat → Nat
  | 0 => leadR (bAt s 0)
  | k + 1 => 64 * numR s k + bAt s (k + 1) % 64
/-- Whether the number is a letter, and the bytes are its bytes. -/
def okR (s : List UInt8) : Prop := manyR (bAt s 0) ≤ s.length ∧ isL (numR s (manyR (bAt s 0) - 1) : Int) = true ∧ encodeRune (numR s (manyR (bAt s 0) - 1) : Int) = s.take (manyR (bAt s 0))

theorem u8eq {x : Int} {a : UInt8} (h : 0 ≤ x ∧ x < 256) : x.toNat.toUInt8 = a ↔ x = (a.toNat : Int) := by
  have ha := a.toNat_lt
  constructor
  · intro e
    have := u8 x.toNat (by omega)
    rw [e] at this
    omega
  · intro e
    apply UInt8.toNat_inj.mp
    rw [u8 x.toNat (by omega)]
    omega
theorem enc1 {n : Int} (h : 0 ≤ n ∧ n ≤ 127) : encodeRune n = [n.toNat.toUInt8] := by
  unfold encodeRune encodeRuneZ
  rw [if_pos h]; rfl
theorem enc2 {n : Int} (h : 128 ≤ n ∧ n ≤ 2047) : encodeRune n = [(192 + n / 64).toNat.toUInt8, (128 + n % 64).toNat.toUInt8] := by
  unfold encodeRune encodeRuneZ
  rw [if_neg (by omega), if_pos h]; rfl
theorem enc3 {n : Int} (h : (2048 ≤ n ∧ n < 55296) ∨ (57343 < n ∧ n ≤ 65535)) : encodeRune n = [(224 + n / 4096).toNat.toUInt8, (128 + n / 64 % 64).toNat.toUInt8, (128 + n % 64).toNat.toUInt8] := by
  unfold encodeRune encodeRuneZ
  rw [if_neg (by omega), if_neg (by omega), if_pos h]; rfl
theorem enc4 {n : Int} (h : 65536 ≤ n ∧ n ≤ 1114111) : encodeRune n = [(240 + n / 262144).toNat.toUInt8, (128 + n / 4096 % 64).toNat.toUInt8, (128 + n / 64 % 64).toNat.toUInt8, (128 + n % 64).toNat.toUInt8] := by
  unfold encodeRune encodeRuneZ
  rw [if_neg (by omega), if_neg (by omega), if_neg (by omega), if_pos h]; rfl

theorem many_pos (c : Nat) : 1 ≤ manyR c ∧ manyR c ≤ 4 := by
  unfold manyR
  repeat' split
  all_goals omega
/-- Where it is so, that is the letter. -/
theorem next_ok {s : List UInt8} (h : okR s) : nextL s = (numR s (manyR (bAt s 0) - 1), manyR (bAt s 0)) := by
  obtain ⟨h1, h2, h3⟩ := h
  have hs : s = encodeRune (numR s (manyR (bAt s 0) - 1) : Int) ++ s.drop (manyR (bAt s 0)) := by rw [h3, List.take_append_drop]
  have hl : (encodeRune (numR s (manyR (bAt s 0) - 1) : Int)).length = manyR (bAt s 0) := by rw [h3, List.length_take]; omega
  have hn := next_enc (numR s (manyR (bAt s 0) - 1) : Int) (s.drop (manyR (bAt s 0)))
  rw [← hs, hl] at hn
  rw [hn]
  unfold fix
  rw [if_pos h2]
  simp

theorem ok1 {s : List UInt8} (h0 : s ≠ []) (h : bAt s 0 < 128) : okR s := by
  have hm : manyR (bAt s 0) = 1 := by unfold manyR; rw [if_neg (by omega), if_neg (by omega), if_neg (by omega)]
  unfold okR
  rw [hm]
  have hn : numR s (1 - 1) = bAt s 0 := by show numR s 0 = _; simp only [numR, leadR]; rw [if_neg (by omega), if_neg (by omega), if_neg (by omega)]
  rw [hn]
  cases s with
  | nil => exact absurd rfl h0
  | cons a0 r =>
    have e0 : bAt (a0 :: r) 0 = a0.toNat := rfl
    rw [e0] at h ⊢
    refine ⟨by simp, by unfold isL; exact decide_eq_true (by omega), ?_⟩
    rw [enc1 (by omega)]
    show [_] = [a0]
    rw [List.cons.injEq]
    exact ⟨(u8eq (by omega)).mpr rfl, rfl⟩
theorem ok2 {s : List UInt8} (h : bAt s 0 / 32 = 6 ∧ (1 < s.length ∧ bAt s 1 / 64 = 2)) (hv : bAt s 0 % 32 * 64 + bAt s 1 % 64 ≥ 128) : okR s := by
  have hb1 := bAt_lt s 1
  have hm : manyR (bAt s 0) = 2 := by unfold manyR; rw [if_neg (by omega), if_neg (by omega), if_pos (by omega)]
  unfold okR
  rw [hm]
  have hn : numR s (2 - 1) = bAt s 0 % 32 * 64 + bAt s 1 % 64 := by
    simp only [numR, leadR, show 2 - 1 = 1 from rfl, Nat.zero_add]; rw [if_neg (by omega), if_neg (by omega), if_pos (by omega)]; omega
  rw [hn]
  rcases s with _ | ⟨a0, _ | ⟨a1, r⟩⟩
  · exact absurd h.2.1 (by simp)
  · exact absurd h.2.1 (by simp)
  · clear hm hn
    have e0 : bAt (a0 :: a1 :: r) 0 = a0.toNat := rfl
    have e1 : bAt (a0 :: a1 :: r) 1 = a1.toNat := rfl
    simp only [e0, e1] at h hv hb1 ⊢
    refine ⟨by simp, by unfold isL; exact decide_eq_true (by omega), ?_⟩
    rw [enc2 (by omega)]
    show [_, _] = [a0, a1]
    simp only [List.cons.injEq, and_true]
    exact ⟨(u8eq (by omega)).mpr (by omega), (u8eq (by omega)).mpr (by omega)⟩
theorem ok3 {s : List UInt8} (h : bAt s 0 / 16 = 14 ∧ (1 < s.length ∧ bAt s 1 / 64 = 2) ∧ (2 < s.length ∧ bAt s 2 / 64 = 2))
    (hv : bAt s 0 % 16 * 4096 + bAt s 1 % 64 * 64 + bAt s 2 % 64 ≥ 2048 ∧ (bAt s 0 % 16 * 4096 + bAt s 1 % 64 * 64 + bAt s 2 % 64 < 55296 ∨ (57344 ≤ bAt s 0 % 16 * 4096 + bAt s 1 % 64 * 64 + bAt s 2 % 64 ∧ bAt s 0 % 16 * 4096 + bAt s 1 % 64 * 64 + bAt s 2 % 64 ≤ 1114111))) : okR s := by
  have hb1 := bAt_lt s 1
  have hb2 := bAt_lt s 2
  have hm : manyR (bAt s 0) = 3 := by unfold manyR; rw [if_neg (by omega), if_pos (by omega)]
  unfold okR
  rw [hm]
  have hn : numR s (3 - 1) = bAt s 0 % 16 * 4096 + bAt s 1 % 64 * 64 + bAt s 2 % 64 := by
    show numR s (0 + 1 + 1) = _
    simp only [numR, leadR]; rw [if_neg (by omega), if_pos (by omega)]; simp only [Nat.zero_add, Nat.reduceAdd]; omega
  rw [hn]
  rcases s with _ | ⟨a0, _ | ⟨a1, _ | ⟨a2, r⟩⟩⟩
  · exact absurd h.2.2.1 (by simp)
  · exact absurd h.2.2.1 (by simp)
  · exact absurd h.2.2.1 (by simp)
  · clear hm hn
    have e0 : bAt (a0 :: a1 :: a2 :: r) 0 = a0.toNat := rfl
    have e1 : bAt (a0 :: a1 :: a2 :: r) 1 = a1.toNat := rfl
    have e2 : bAt (a0 :: a1 :: a2 :: r) 2 = a2.toNat := rfl
    simp only [e0, e1, e2] at h hv hb1 hb2 ⊢
    refine ⟨by simp, by unfold isL; exact decide_eq_true (by omega), ?_⟩
    rw [enc3 (by omega)]
    show [_, _, _] = [a0, a1, a2]
    simp only [List.cons.injEq, and_true]
    exact ⟨(u8eq (by omega)).mpr (by omega), (u8eq (by omega)).mpr (by omega), (u8eq (by omega)).mpr (by omega)⟩
theorem ok4 {s : List UInt8} (h : bAt s 0 / 8 = 30 ∧ (1 < s.length ∧ bAt s 1 / 64 = 2) ∧ (2 < s.length ∧ bAt s 2 / 64 = 2) ∧ (3 < s.length ∧ bAt s 3 / 64 = 2))
    (hv : bAt s 0 % 8 * 262144 + bAt s 1 % 64 * 4096 + bAt s 2 % 64 * 64 + bAt s 3 % 64 ≥ 65536) (hw : bAt s 0 % 8 * 262144 + bAt s 1 % 64 * 4096 + bAt s 2 % 64 * 64 + bAt s 3 % 64 ≤ 1114111) : okR s := by
  have hb1 := bAt_lt s 1
  have hb2 := bAt_lt s 2
  have hb3 := bAt_lt s 3
  have hm : manyR (bAt s 0) = 4 := by unfold manyR; rw [if_pos (by omega)]
  unfold okR
  rw [hm]
  have hn : numR s (4 - 1) = bAt s 0 % 8 * 262144 + bAt s 1 % 64 * 4096 + bAt s 2 % 64 * 64 + bAt s 3 % 64 := by
    show numR s (0 + 1 + 1 + 1) = _
    simp only [numR, leadR]; rw [if_pos (by omega)]; simp only [Nat.zero_add, Nat.reduceAdd]; omega
  rw [hn]
  rcases s with _ | ⟨a0, _ | ⟨a1, _ | ⟨a2, _ | ⟨a3, r⟩⟩⟩⟩
  · exact absurd h.2.2.2.1 (by simp)
  · exact absurd h.2.2.2.1 (by simp)
  · exact absurd h.2.2.2.1 (by simp)
  · exact absurd h.2.2.2.1 (by simp)
  · clear hm hn
    have e0 : bAt (a0 :: a1 :: a2 :: a3 :: r) 0 = a0.toNat := rfl
    have e1 : bAt (a0 :: a1 :: a2 :: a3 :: r) 1 = a1.toNat := rfl
    have e2 : bAt (a0 :: a1 :: a2 :: a3 :: r) 2 = a2.toNat := rfl
    have e3 : bAt (a0 :: a1 :: a2 :: a3 :: r) 3 = a3.toNat := rfl
    simp only [e0, e1, e2, e3] at h hv hw hb1 hb2 hb3 ⊢
    refine ⟨by simp, by unfold isL; exact decide_eq_true (by omega), ?_⟩
    rw [enc4 (by omega)]
    show [_, _, _, _] = [a0, a1, a2, a3]
    simp only [List.cons.injEq, and_true]
    exact ⟨(u8eq (by omega)).mpr (by omega), (u8eq (by omega)).mpr (by omega), (u8eq (by omega)).mpr (by omega), (u8eq (by omega)).mpr (by omega)⟩
/-- Where it is not so, there is none. -/
theorem next_no {s : List UInt8} (h0 : s ≠ []) (h : ¬ okR s) : nextL s = (65533, 1) := by
  unfold nextL decodeN
  split
  · rename_i h1; exact absurd (ok1 h0 h1) h
  · split
    · rename_i h2
      split
      · rename_i hv; exact absurd (ok2 h2 hv) h
      · rfl
    · split
      · rename_i h3
        split
        · rename_i hv; exact absurd (ok3 h3 hv) h
        · rfl
      · split
        · rename_i h4
          split
          · rename_i hv; exact absurd (ok4 h4 hv.1 (by omega)) h
          · rfl
        · rfl
end Go.Proofs.Nxr

/-
  What missiveref06.next does, over this seat's program: the letter that bytes begin with.
-/
set_option linter.unusedVariables false
namespace Go.Proofs.YtdallfakfhajdaaGreatDoor
open Go.RowKit Go.Proofs.Rns Go.Proofs.Nxr

theorem bAt_byte (s : ByteArray) (k : Nat) (h : k < s.size) : bAt s.data.toList k = s[k].toNat := by
  unfold bAt
  rw [getD_byte s k h]
/-- What is known of the number behind some bytes. -/
def Bnd (i n : Nat) : Prop := (i = 1 ∧ n < 32) ∨ (i = 2 ∧ n < 2048) ∨ (i = 3 ∧ n < 131072) ∨ (i = 4 ∧ n < 8388608)

end Go.Proofs.YtdallfakfhajdaaGreatDoor

/-
  What missiveref06.next does, over this seat's program: the letter that bytes begin with.
-/
set_option linter.unusedVariables false
namespace Go.Proofs.YtdallfakfhajdaaGreatDoor
open Go.RowKit Go.Proofs.Rns Go.Proofs.Nxr

set_option maxHeartbeats 20000000 in
set_option maxRecDepth 100000 in
theorem refNext_1 (s : ByteArray) (w : World) (h0 : 0 < s.size) (hs : s.size ≤ 40000000) (hc : ¬ (192 ≤ s[0].toNat ∧ s[0].toNat < 248)) :
    Calls Tryz.prog 118 #[.string s] w fun e w' => e = .returned (.tuple #[.int .i32 ((nextL s.data.toList).1 : Int), .int .i64 ((nextL s.data.toList).2 : Int)]) ∧ Below w.heap.size w w' := by
  have hsl := sizeL s
  have hne : s.data.toList ≠ [] := by intro e; rw [e] at hsl; simp at hsl; omega
  have hb := bAt_byte s 0 h0
  have hb256 := s[0].toNat_lt
  have hm : manyR (bAt s.data.toList 0) = 1 := by
    rw [hb]; unfold manyR
    rw [if_neg (by omega), if_neg (by omega), if_neg (by omega)]
  have hl0 : numR s.data.toList 0 = s[0].toNat - 0 := by
    simp only [numR, leadR]; rw [hb]
    rw [if_neg (by omega), if_neg (by omega), if_neg (by omega)]; omega
  have h0' : (0 : Int) < (s.size : Int) := by omega
  obtain ⟨c, hcc⟩ : ∃ c, s[0].toNat = c := ⟨_, rfl⟩
  have HCC := hide hcc
  rw [hcc] at hc hl0 hb256
  by_cases hlen : s.size < 1
  · have hno := next_no hne (by intro hk; have := hk.1; rw [hm, hsl] at this; omega)
    rw [hno]
    have hlen' : (s.size : Int) < 1 := by omega
    clear hno hm hb hne hsl hl0
    exact absurd hlen (by omega)
  · have hlen' : ¬ (s.size : Int) < 1 := by omega
    have HNE := hide hne
    have HM := hide hm
    have HSL := hide hsl
    by_cases g1 : 192 ≤ c
    · have e1 : (192 : Int) ≤ (s[0].toNat : Int) := by omega
      have e2 : ¬ (s[0].toNat : Int) < 224 := by omega
      have e3 : (224 : Int) ≤ (s[0].toNat : Int) := by omega
      have e4 : (240 : Int) ≤ (s[0].toNat : Int) := by omega
      have e5 : ¬ (s[0].toNat : Int) < 240 := by omega
      have e6 : ¬ (s[0].toNat : Int) < 248 := by omega
      have HL0 := hide hl0
      clear hm hb hne hsl hl0
      go_enter Tryz.func118, Tryz.ntmps118
      go_wp2
      go_loopw [4, 6] (fun y z wr => ∃ i n : Nat, z = .int .i64 i ∧ y = .int .i32 n ∧ 1 ≤ i ∧ i ≤ 1 ∧ Hid (n = numR s.data.toList (i - 1)) ∧ n < 256 ∧ wr = w) (fun _ z _ => 4 - (intOf z).toNat)
      case atStart => exact ⟨1, c - 0, rfl, by have := unhide HCC; simp only [Value.int.injEq, true_and]; omega, Nat.le_refl _, by omega, hide (unhide HL0).symm, by omega, rfl⟩
      case round =>
        obtain ⟨i, n, rfl, rfl, hi1, hi2, HN, hbd, rfl⟩ := hrel
        by_cases hit : i < 1
        · have hit' : (i : Int) < 1 := by omega
          have hil : i < s.size := by omega
          have hil' : (i : Int) < (s.size : Int) := by omega
          have hbi := bAt_byte s i hil
          have hnx : 64 * n + s[i].toNat % 64 = numR s.data.toList (i + 1 - 1) := by
            obtain ⟨j, rfl⟩ : ∃ j, i = j + 1 := ⟨i - 1, by omega⟩
            simp only [Nat.add_sub_cancel, numR]
            rw [hbi, unhide HN]
            rfl
          have HNX := hide hnx
          exact absurd hit (by omega)
        · have hiM : i = 1 := by omega
          have hit' : ¬ (i : Int) < 1 := by omega
          have hn6 : n < 8388608 := by omega
          have hnum : numR s.data.toList (1 - 1) = n := by have := unhide HN; rw [hiM] at this; exact this.symm
          have HIS := hide (fun W => is_any (n : Int) W)
          have hM := unhide HM
          have hsM : (1 : Int) ≤ (s.size : Int) := by omega
          cases hil : isL (n : Int) with
          | false =>
            have hno := next_no (unhide HNE) (by intro hk; have := hk.2.1; rw [hM, hnum, hil] at this; cases this)
            rw [hil] at HIS
            have HNO := hide hno
            clear hno hnum hM hil hbd
            go_wp2
            go_quiet ((go_at_call 42; exact Calls.quiet_of_same (unhide HIS _)))
            go_wp2
            go_ret2
            exact ⟨by rw [unhide HNO]; rfl, below_drewN (Below.refl _ _) _⟩
          | true =>
            have HONE := hide (fun W => oneB_any (n : Int) W hil)
            rw [hil] at HIS
            have hte : (s.extract 0 1).data.toList = s.data.toList.take 1 := toList_upto s 1
            obtain ⟨x, hx⟩ : ∃ x, bts (Lib.encodeRune (n : Int)) = x := ⟨_, rfl⟩
            rw [hx] at HONE
            have hyb := beqS x (s.extract 0 1)
            by_cases hxy : x = s.extract 0 1
            · have hok : okR s.data.toList := ⟨by rw [hM, unhide HSL]; omega, by rw [hM, hnum]; exact hil, by rw [hM, hnum, ← hte, ← hxy, ← hx, toList_bts]⟩
              have hno := next_ok hok
              rw [hM, hnum] at hno
              have HNO := hide hno
              rw [decide_eq_true hxy] at hyb
              clear hno hok hnum hM hil hte hx hxy hbd
              go_wp2
              go_region_with (first | (go_at_call 42; refine (unhide HIS _).mono ?_; rintro e w2 ⟨rfl, rfl⟩) | (go_at_call 85; refine (unhide HONE _).mono ?_; rintro e w2 ⟨rfl, b2⟩))
              all_goals
                have HB5 := hide b2
                clear b2
                go_wp2
                go_ret2
                refine ⟨by rw [unhide HNO]; rfl, ?_⟩
                have h := unhide HB5
                exact ⟨h.os, h.tape, h.output, h.size, h.block⟩
            · have hno := next_no (unhide HNE) (by
                intro hk
                have := hk.2.2
                rw [hM, hnum, ← hte] at this
                exact hxy (by rw [← hx]; apply ext_list; rw [toList_bts]; exact this))
              have HNO := hide hno
              rw [decide_eq_false hxy] at hyb
              clear hno hnum hM hil hte hx hxy hbd
              go_wp2
              go_region_with (first | (go_at_call 42; refine (unhide HIS _).mono ?_; rintro e w2 ⟨rfl, rfl⟩) | (go_at_call 85; refine (unhide HONE _).mono ?_; rintro e w2 ⟨rfl, b2⟩))
              all_goals
                have HB5 := hide b2
                clear b2
                go_wp2
                go_ret2
                refine ⟨by rw [unhide HNO]; rfl, ?_⟩
                have h := unhide HB5
                exact ⟨h.os, h.tape, h.output, h.size, h.block⟩
    · have e1 : ¬ (192 : Int) ≤ (s[0].toNat : Int) := by omega
      have e3 : ¬ (224 : Int) ≤ (s[0].toNat : Int) := by omega
      have e4 : ¬ (240 : Int) ≤ (s[0].toNat : Int) := by omega
      have HL0 := hide hl0
      clear hm hb hne hsl hl0
      go_enter Tryz.func118, Tryz.ntmps118
      go_wp2
      go_loopw [4, 6] (fun y z wr => ∃ i n : Nat, z = .int .i64 i ∧ y = .int .i32 n ∧ 1 ≤ i ∧ i ≤ 1 ∧ Hid (n = numR s.data.toList (i - 1)) ∧ n < 256 ∧ wr = w) (fun _ z _ => 4 - (intOf z).toNat)
      case atStart => exact ⟨1, c - 0, rfl, by have := unhide HCC; simp only [Value.int.injEq, true_and]; omega, Nat.le_refl _, by omega, hide (unhide HL0).symm, by omega, rfl⟩
      case round =>
        obtain ⟨i, n, rfl, rfl, hi1, hi2, HN, hbd, rfl⟩ := hrel
        by_cases hit : i < 1
        · have hit' : (i : Int) < 1 := by omega
          have hil : i < s.size := by omega
          have hil' : (i : Int) < (s.size : Int) := by omega
          have hbi := bAt_byte s i hil
          have hnx : 64 * n + s[i].toNat % 64 = numR s.data.toList (i + 1 - 1) := by
            obtain ⟨j, rfl⟩ : ∃ j, i = j + 1 := ⟨i - 1, by omega⟩
            simp only [Nat.add_sub_cancel, numR]
            rw [hbi, unhide HN]
            rfl
          have HNX := hide hnx
          exact absurd hit (by omega)
        · have hiM : i = 1 := by omega
          have hit' : ¬ (i : Int) < 1 := by omega
          have hn6 : n < 8388608 := by omega
          have hnum : numR s.data.toList (1 - 1) = n := by have := unhide HN; rw [hiM] at this; exact this.symm
          have HIS := hide (fun W => is_any (n : Int) W)
          have hM := unhide HM
          have hsM : (1 : Int) ≤ (s.size : Int) := by omega
          cases hil : isL (n : Int) with
          | false =>
            have hno := next_no (unhide HNE) (by intro hk; have := hk.2.1; rw [hM, hnum, hil] at this; cases this)
            rw [hil] at HIS
            have HNO := hide hno
            clear hno hnum hM hil hbd
            go_wp2
            go_quiet ((go_at_call 42; exact Calls.quiet_of_same (unhide HIS _)))
            go_wp2
            go_ret2
            exact ⟨by rw [unhide HNO]; rfl, below_drewN (Below.refl _ _) _⟩
          | true =>
            have HONE := hide (fun W => oneB_any (n : Int) W hil)
            rw [hil] at HIS
            have hte : (s.extract 0 1).data.toList = s.data.toList.take 1 := toList_upto s 1
            obtain ⟨x, hx⟩ : ∃ x, bts (Lib.encodeRune (n : Int)) = x := ⟨_, rfl⟩
            rw [hx] at HONE
            have hyb := beqS x (s.extract 0 1)
            by_cases hxy : x = s.extract 0 1
            · have hok : okR s.data.toList := ⟨by rw [hM, unhide HSL]; omega, by rw [hM, hnum]; exact hil, by rw [hM, hnum, ← hte, ← hxy, ← hx, toList_bts]⟩
              have hno := next_ok hok
              rw [hM, hnum] at hno
              have HNO := hide hno
              rw [decide_eq_true hxy] at hyb
              clear hno hok hnum hM hil hte hx hxy hbd
              go_wp2
              go_region_with (first | (go_at_call 42; refine (unhide HIS _).mono ?_; rintro e w2 ⟨rfl, rfl⟩) | (go_at_call 85; refine (unhide HONE _).mono ?_; rintro e w2 ⟨rfl, b2⟩))
              all_goals
                have HB5 := hide b2
                clear b2
                go_wp2
                go_ret2
                refine ⟨by rw [unhide HNO]; rfl, ?_⟩
                have h := unhide HB5
                exact ⟨h.os, h.tape, h.output, h.size, h.block⟩
            · have hno := next_no (unhide HNE) (by
                intro hk
                have := hk.2.2
                rw [hM, hnum, ← hte] at this
                exact hxy (by rw [← hx]; apply ext_list; rw [toList_bts]; exact this))
              have HNO := hide hno
              rw [decide_eq_false hxy] at hyb
              clear hno hnum hM hil hte hx hxy hbd
              go_wp2
              go_region_with (first | (go_at_call 42; refine (unhide HIS _).mono ?_; rintro e w2 ⟨rfl, rfl⟩) | (go_at_call 85; refine (unhide HONE _).mono ?_; rintro e w2 ⟨rfl, b2⟩))
              all_goals
                have HB5 := hide b2
                clear b2
                go_wp2
                go_ret2
                refine ⟨by rw [unhide HNO]; rfl, ?_⟩
                have h := unhide HB5
                exact ⟨h.os, h.tape, h.output, h.size, h.block⟩
end Go.Proofs.YtdallfakfhajdaaGreatDoor

/-
  What missiveref06.next does, over this seat's program: the letter that bytes begin with.
-/
set_option linter.unusedVariables false
namespace Go.Proofs.YtdallfakfhajdaaGreatDoor
open Go.RowKit Go.Proofs.Rns Go.Proofs.Nxr

set_option maxHeartbeats 20000000 in
set_option maxRecDepth 100000 in
theorem refNext_2 (s : ByteArray) (w : World) (h0 : 0 < s.size) (hs : s.size ≤ 40000000) (hc : 192 ≤ s[0].toNat ∧ s[0].toNat < 224) :
    Calls Tryz.prog 118 #[.string s] w fun e w' => e = .returned (.tuple #[.int .i32 ((nextL s.data.toList).1 : Int), .int .i64 ((nextL s.data.toList).2 : Int)]) ∧ Below w.heap.size w w' := by
  have hsl := sizeL s
  have hne : s.data.toList ≠ [] := by intro e; rw [e] at hsl; simp at hsl; omega
  have hb := bAt_byte s 0 h0
  have hb256 := s[0].toNat_lt
  have hm : manyR (bAt s.data.toList 0) = 2 := by
    rw [hb]; unfold manyR
    rw [if_neg (by omega), if_neg (by omega), if_pos (by omega)]
  have hl0 : numR s.data.toList 0 = s[0].toNat - 192 := by
    simp only [numR, leadR]; rw [hb]
    rw [if_neg (by omega), if_neg (by omega), if_pos (by omega)]
  have h0' : (0 : Int) < (s.size : Int) := by omega
  obtain ⟨c, hcc⟩ : ∃ c, s[0].toNat = c := ⟨_, rfl⟩
  have HCC := hide hcc
  rw [hcc] at hc hl0 hb256
  by_cases hlen : s.size < 2
  · have hno := next_no hne (by intro hk; have := hk.1; rw [hm, hsl] at this; omega)
    rw [hno]
    have hlen' : (s.size : Int) < 2 := by omega
    clear hno hm hb hne hsl hl0
    have e1 : (192 : Int) ≤ (s[0].toNat : Int) := by omega
    have e2 : (s[0].toNat : Int) < 224 := by omega
    have e3 : ¬ (224 : Int) ≤ (s[0].toNat : Int) := by omega
    have e4 : ¬ (240 : Int) ≤ (s[0].toNat : Int) := by omega
    have e5 : (s[0].toNat : Int) < 240 := by omega
    have e6 : (s[0].toNat : Int) < 248 := by omega
    go_enter Tryz.func118, Tryz.ntmps118
    go_wp2
    go_ret2
    exact ⟨rfl, Below.refl _ _⟩
  · have hlen' : ¬ (s.size : Int) < 2 := by omega
    have HNE := hide hne
    have HM := hide hm
    have HSL := hide hsl
    have e1 : (192 : Int) ≤ (s[0].toNat : Int) := by omega
    have e2 : (s[0].toNat : Int) < 224 := by omega
    have e3 : ¬ (224 : Int) ≤ (s[0].toNat : Int) := by omega
    have e4 : ¬ (240 : Int) ≤ (s[0].toNat : Int) := by omega
    have e5 : (s[0].toNat : Int) < 240 := by omega
    have e6 : (s[0].toNat : Int) < 248 := by omega
    have HL0 := hide hl0
    clear hm hb hne hsl hl0
    go_enter Tryz.func118, Tryz.ntmps118
    go_wp2
    go_loopw [4, 6] (fun y z wr => ∃ i n : Nat, z = .int .i64 i ∧ y = .int .i32 n ∧ 1 ≤ i ∧ i ≤ 2 ∧ Hid (n = numR s.data.toList (i - 1)) ∧ Bnd i n ∧ wr = w) (fun _ z _ => 4 - (intOf z).toNat)
    case atStart => exact ⟨1, c - 192, rfl, by have := unhide HCC; simp only [Value.int.injEq, true_and]; omega, Nat.le_refl _, by omega, hide (unhide HL0).symm, Or.inl ⟨rfl, by omega⟩, rfl⟩
    case round =>
      obtain ⟨i, n, rfl, rfl, hi1, hi2, HN, hbd, rfl⟩ := hrel
      by_cases hit : i < 2
      · have hit' : (i : Int) < 2 := by omega
        have hil : i < s.size := by omega
        have hil' : (i : Int) < (s.size : Int) := by omega
        have hbi := bAt_byte s i hil
        have hnx : 64 * n + s[i].toNat % 64 = numR s.data.toList (i + 1 - 1) := by
          obtain ⟨j, rfl⟩ : ∃ j, i = j + 1 := ⟨i - 1, by omega⟩
          simp only [Nat.add_sub_cancel, numR]
          rw [hbi, unhide HN]
          rfl
        have HNX := hide hnx
        have hbd2 : Bnd (i + 1) (64 * n + s[i].toNat % 64) := by
          unfold Bnd at hbd ⊢
          omega
        have hn6 : n < 131072 := by unfold Bnd at hbd; omega
        have HBD := hide hbd2
        have hx := s[i].toNat_lt
        clear hnx hbd2 hbd hbi
        go_wp2
        exact ⟨⟨i + 1, 64 * n + s[i].toNat % 64, by go_num, by go_num, by omega, by omega, HNX, unhide HBD, trivial⟩, by simp [intOf]; omega⟩
      · have hiM : i = 2 := by omega
        have hit' : ¬ (i : Int) < 2 := by omega
        have hn6 : n < 8388608 := by unfold Bnd at hbd; omega
        have hnum : numR s.data.toList (2 - 1) = n := by have := unhide HN; rw [hiM] at this; exact this.symm
        have HIS := hide (fun W => is_any (n : Int) W)
        have hM := unhide HM
        have hsM : (2 : Int) ≤ (s.size : Int) := by omega
        cases hil : isL (n : Int) with
        | false =>
          have hno := next_no (unhide HNE) (by intro hk; have := hk.2.1; rw [hM, hnum, hil] at this; cases this)
          rw [hil] at HIS
          have HNO := hide hno
          clear hno hnum hM hil hbd
          go_wp2
          go_quiet ((go_at_call 42; exact Calls.quiet_of_same (unhide HIS _)))
          go_wp2
          go_ret2
          exact ⟨by rw [unhide HNO]; rfl, below_drewN (Below.refl _ _) _⟩
        | true =>
          have HONE := hide (fun W => oneB_any (n : Int) W hil)
          rw [hil] at HIS
          have hte : (s.extract 0 2).data.toList = s.data.toList.take 2 := toList_upto s 2
          obtain ⟨x, hx⟩ : ∃ x, bts (Lib.encodeRune (n : Int)) = x := ⟨_, rfl⟩
          rw [hx] at HONE
          have hyb := beqS x (s.extract 0 2)
          by_cases hxy : x = s.extract 0 2
          · have hok : okR s.data.toList := ⟨by rw [hM, unhide HSL]; omega, by rw [hM, hnum]; exact hil, by rw [hM, hnum, ← hte, ← hxy, ← hx, toList_bts]⟩
            have hno := next_ok hok
            rw [hM, hnum] at hno
            have HNO := hide hno
            rw [decide_eq_true hxy] at hyb
            clear hno hok hnum hM hil hte hx hxy hbd
            go_wp2
            go_region_with (first | (go_at_call 42; refine (unhide HIS _).mono ?_; rintro e w2 ⟨rfl, rfl⟩) | (go_at_call 85; refine (unhide HONE _).mono ?_; rintro e w2 ⟨rfl, b2⟩))
            all_goals
              have HB5 := hide b2
              clear b2
              go_wp2
              go_ret2
              refine ⟨by rw [unhide HNO]; rfl, ?_⟩
              have h := unhide HB5
              exact ⟨h.os, h.tape, h.output, h.size, h.block⟩
          · have hno := next_no (unhide HNE) (by
              intro hk
              have := hk.2.2
              rw [hM, hnum, ← hte] at this
              exact hxy (by rw [← hx]; apply ext_list; rw [toList_bts]; exact this))
            have HNO := hide hno
            rw [decide_eq_false hxy] at hyb
            clear hno hnum hM hil hte hx hxy hbd
            go_wp2
            go_region_with (first | (go_at_call 42; refine (unhide HIS _).mono ?_; rintro e w2 ⟨rfl, rfl⟩) | (go_at_call 85; refine (unhide HONE _).mono ?_; rintro e w2 ⟨rfl, b2⟩))
            all_goals
              have HB5 := hide b2
              clear b2
              go_wp2
              go_ret2
              refine ⟨by rw [unhide HNO]; rfl, ?_⟩
              have h := unhide HB5
              exact ⟨h.os, h.tape, h.output, h.size, h.block⟩
end Go.Proofs.YtdallfakfhajdaaGreatDoor

/-
  What missiveref06.next does, over this seat's program: the letter that bytes begin with.
-/
set_option linter.unusedVariables false
namespace Go.Proofs.YtdallfakfhajdaaGreatDoor
open Go.RowKit Go.Proofs.Rns Go.Proofs.Nxr

set_option maxHeartbeats 20000000 in
set_option maxRecDepth 100000 in
theorem refNext_3 (s : ByteArray) (w : World) (h0 : 0 < s.size) (hs : s.size ≤ 40000000) (hc : 224 ≤ s[0].toNat ∧ s[0].toNat < 240) :
    Calls Tryz.prog 118 #[.string s] w fun e w' => e = .returned (.tuple #[.int .i32 ((nextL s.data.toList).1 : Int), .int .i64 ((nextL s.data.toList).2 : Int)]) ∧ Below w.heap.size w w' := by
  have hsl := sizeL s
  have hne : s.data.toList ≠ [] := by intro e; rw [e] at hsl; simp at hsl; omega
  have hb := bAt_byte s 0 h0
  have hb256 := s[0].toNat_lt
  have hm : manyR (bAt s.data.toList 0) = 3 := by
    rw [hb]; unfold manyR
    rw [if_neg (by omega), if_pos (by omega)]
  have hl0 : numR s.data.toList 0 = s[0].toNat - 224 := by
    simp only [numR, leadR]; rw [hb]
    rw [if_neg (by omega), if_pos (by omega)]
  have h0' : (0 : Int) < (s.size : Int) := by omega
  obtain ⟨c, hcc⟩ : ∃ c, s[0].toNat = c := ⟨_, rfl⟩
  have HCC := hide hcc
  rw [hcc] at hc hl0 hb256
  by_cases hlen : s.size < 3
  · have hno := next_no hne (by intro hk; have := hk.1; rw [hm, hsl] at this; omega)
    rw [hno]
    have hlen' : (s.size : Int) < 3 := by omega
    clear hno hm hb hne hsl hl0
    have e1 : (192 : Int) ≤ (s[0].toNat : Int) := by omega
    have e2 : ¬ (s[0].toNat : Int) < 224 := by omega
    have e3 : (224 : Int) ≤ (s[0].toNat : Int) := by omega
    have e4 : ¬ (240 : Int) ≤ (s[0].toNat : Int) := by omega
    have e5 : (s[0].toNat : Int) < 240 := by omega
    have e6 : (s[0].toNat : Int) < 248 := by omega
    go_enter Tryz.func118, Tryz.ntmps118
    go_wp2
    go_ret2
    exact ⟨rfl, Below.refl _ _⟩
  · have hlen' : ¬ (s.size : Int) < 3 := by omega
    have HNE := hide hne
    have HM := hide hm
    have HSL := hide hsl
    have e1 : (192 : Int) ≤ (s[0].toNat : Int) := by omega
    have e2 : ¬ (s[0].toNat : Int) < 224 := by omega
    have e3 : (224 : Int) ≤ (s[0].toNat : Int) := by omega
    have e4 : ¬ (240 : Int) ≤ (s[0].toNat : Int) := by omega
    have e5 : (s[0].toNat : Int) < 240 := by omega
    have e6 : (s[0].toNat : Int) < 248 := by omega
    have HL0 := hide hl0
    clear hm hb hne hsl hl0
    go_enter Tryz.func118, Tryz.ntmps118
    go_wp2
    go_loopw [4, 6] (fun y z wr => ∃ i n : Nat, z = .int .i64 i ∧ y = .int .i32 n ∧ 1 ≤ i ∧ i ≤ 3 ∧ Hid (n = numR s.data.toList (i - 1)) ∧ Bnd i n ∧ wr = w) (fun _ z _ => 4 - (intOf z).toNat)
    case atStart => exact ⟨1, c - 224, rfl, by have := unhide HCC; simp only [Value.int.injEq, true_and]; omega, Nat.le_refl _, by omega, hide (unhide HL0).symm, Or.inl ⟨rfl, by omega⟩, rfl⟩
    case round =>
      obtain ⟨i, n, rfl, rfl, hi1, hi2, HN, hbd, rfl⟩ := hrel
      by_cases hit : i < 3
      · have hit' : (i : Int) < 3 := by omega
        have hil : i < s.size := by omega
        have hil' : (i : Int) < (s.size : Int) := by omega
        have hbi := bAt_byte s i hil
        have hnx : 64 * n + s[i].toNat % 64 = numR s.data.toList (i + 1 - 1) := by
          obtain ⟨j, rfl⟩ : ∃ j, i = j + 1 := ⟨i - 1, by omega⟩
          simp only [Nat.add_sub_cancel, numR]
          rw [hbi, unhide HN]
          rfl
        have HNX := hide hnx
        have hbd2 : Bnd (i + 1) (64 * n + s[i].toNat % 64) := by
          unfold Bnd at hbd ⊢
          omega
        have hn6 : n < 131072 := by unfold Bnd at hbd; omega
        have HBD := hide hbd2
        have hx := s[i].toNat_lt
        clear hnx hbd2 hbd hbi
        go_wp2
        exact ⟨⟨i + 1, 64 * n + s[i].toNat % 64, by go_num, by go_num, by omega, by omega, HNX, unhide HBD, trivial⟩, by simp [intOf]; omega⟩
      · have hiM : i = 3 := by omega
        have hit' : ¬ (i : Int) < 3 := by omega
        have hn6 : n < 8388608 := by unfold Bnd at hbd; omega
        have hnum : numR s.data.toList (3 - 1) = n := by have := unhide HN; rw [hiM] at this; exact this.symm
        have HIS := hide (fun W => is_any (n : Int) W)
        have hM := unhide HM
        have hsM : (3 : Int) ≤ (s.size : Int) := by omega
        cases hil : isL (n : Int) with
        | false =>
          have hno := next_no (unhide HNE) (by intro hk; have := hk.2.1; rw [hM, hnum, hil] at this; cases this)
          rw [hil] at HIS
          have HNO := hide hno
          clear hno hnum hM hil hbd
          go_wp2
          go_quiet ((go_at_call 42; exact Calls.quiet_of_same (unhide HIS _)))
          go_wp2
          go_ret2
          exact ⟨by rw [unhide HNO]; rfl, below_drewN (Below.refl _ _) _⟩
        | true =>
          have HONE := hide (fun W => oneB_any (n : Int) W hil)
          rw [hil] at HIS
          have hte : (s.extract 0 3).data.toList = s.data.toList.take 3 := toList_upto s 3
          obtain ⟨x, hx⟩ : ∃ x, bts (Lib.encodeRune (n : Int)) = x := ⟨_, rfl⟩
          rw [hx] at HONE
          have hyb := beqS x (s.extract 0 3)
          by_cases hxy : x = s.extract 0 3
          · have hok : okR s.data.toList := ⟨by rw [hM, unhide HSL]; omega, by rw [hM, hnum]; exact hil, by rw [hM, hnum, ← hte, ← hxy, ← hx, toList_bts]⟩
            have hno := next_ok hok
            rw [hM, hnum] at hno
            have HNO := hide hno
            rw [decide_eq_true hxy] at hyb
            clear hno hok hnum hM hil hte hx hxy hbd
            go_wp2
            go_region_with (first | (go_at_call 42; refine (unhide HIS _).mono ?_; rintro e w2 ⟨rfl, rfl⟩) | (go_at_call 85; refine (unhide HONE _).mono ?_; rintro e w2 ⟨rfl, b2⟩))
            all_goals
              have HB5 := hide b2
              clear b2
              go_wp2
              go_ret2
              refine ⟨by rw [unhide HNO]; rfl, ?_⟩
              have h := unhide HB5
              exact ⟨h.os, h.tape, h.output, h.size, h.block⟩
          · have hno := next_no (unhide HNE) (by
              intro hk
              have := hk.2.2
              rw [hM, hnum, ← hte] at this
              exact hxy (by rw [← hx]; apply ext_list; rw [toList_bts]; exact this))
            have HNO := hide hno
            rw [decide_eq_false hxy] at hyb
            clear hno hnum hM hil hte hx hxy hbd
            go_wp2
            go_region_with (first | (go_at_call 42; refine (unhide HIS _).mono ?_; rintro e w2 ⟨rfl, rfl⟩) | (go_at_call 85; refine (unhide HONE _).mono ?_; rintro e w2 ⟨rfl, b2⟩))
            all_goals
              have HB5 := hide b2
              clear b2
              go_wp2
              go_ret2
              refine ⟨by rw [unhide HNO]; rfl, ?_⟩
              have h := unhide HB5
              exact ⟨h.os, h.tape, h.output, h.size, h.block⟩
end Go.Proofs.YtdallfakfhajdaaGreatDoor

/-
  What missiveref06.next does, over this seat's program: the letter that bytes begin with.
-/
set_option linter.unusedVariables false
namespace Go.Proofs.YtdallfakfhajdaaGreatDoor
open Go.RowKit Go.Proofs.Rns Go.Proofs.Nxr

set_option maxHeartbeats 20000000 in
set_option maxRecDepth 100000 in
theorem refNext_4 (s : ByteArray) (w : World) (h0 : 0 < s.size) (hs : s.size ≤ 40000000) (hc : 240 ≤ s[0].toNat ∧ s[0].toNat < 248) :
    Calls Tryz.prog 118 #[.string s] w fun e w' => e = .returned (.tuple #[.int .i32 ((nextL s.data.toList).1 : Int), .int .i64 ((nextL s.data.toList).2 : Int)]) ∧ Below w.heap.size w w' := by
  have hsl := sizeL s
  have hne : s.data.toList ≠ [] := by intro e; rw [e] at hsl; simp at hsl; omega
  have hb := bAt_byte s 0 h0
  have hb256 := s[0].toNat_lt
  have hm : manyR (bAt s.data.toList 0) = 4 := by
    rw [hb]; unfold manyR
    rw [if_pos (by omega)]
  have hl0 : numR s.data.toList 0 = s[0].toNat - 240 := by
    simp only [numR, leadR]; rw [hb]
    rw [if_pos (by omega)]
  have h0' : (0 : Int) < (s.size : Int) := by omega
  obtain ⟨c, hcc⟩ : ∃ c, s[0].toNat = c := ⟨_, rfl⟩
  have HCC := hide hcc
  rw [hcc] at hc hl0 hb256
  by_cases hlen : s.size < 4
  · have hno := next_no hne (by intro hk; have := hk.1; rw [hm, hsl] at this; omega)
    rw [hno]
    have hlen' : (s.size : Int) < 4 := by omega
    clear hno hm hb hne hsl hl0
    have e1 : (192 : Int) ≤ (s[0].toNat : Int) := by omega
    have e2 : ¬ (s[0].toNat : Int) < 224 := by omega
    have e3 : (224 : Int) ≤ (s[0].toNat : Int) := by omega
    have e4 : (240 : Int) ≤ (s[0].toNat : Int) := by omega
    have e5 : ¬ (s[0].toNat : Int) < 240 := by omega
    have e6 : (s[0].toNat : Int) < 248 := by omega
    go_enter Tryz.func118, Tryz.ntmps118
    go_wp2
    go_ret2
    exact ⟨rfl, Below.refl _ _⟩
  · have hlen' : ¬ (s.size : Int) < 4 := by omega
    have HNE := hide hne
    have HM := hide hm
    have HSL := hide hsl
    have e1 : (192 : Int) ≤ (s[0].toNat : Int) := by omega
    have e2 : ¬ (s[0].toNat : Int) < 224 := by omega
    have e3 : (224 : Int) ≤ (s[0].toNat : Int) := by omega
    have e4 : (240 : Int) ≤ (s[0].toNat : Int) := by omega
    have e5 : ¬ (s[0].toNat : Int) < 240 := by omega
    have e6 : (s[0].toNat : Int) < 248 := by omega
    have HL0 := hide hl0
    clear hm hb hne hsl hl0
    go_enter Tryz.func118, Tryz.ntmps118
    go_wp2
    go_loopw [4, 6] (fun y z wr => ∃ i n : Nat, z = .int .i64 i ∧ y = .int .i32 n ∧ 1 ≤ i ∧ i ≤ 4 ∧ Hid (n = numR s.data.toList (i - 1)) ∧ Bnd i n ∧ wr = w) (fun _ z _ => 4 - (intOf z).toNat)
    case atStart => exact ⟨1, c - 240, rfl, by have := unhide HCC; simp only [Value.int.injEq, true_and]; omega, Nat.le_refl _, by omega, hide (unhide HL0).symm, Or.inl ⟨rfl, by omega⟩, rfl⟩
    case round =>
      obtain ⟨i, n, rfl, rfl, hi1, hi2, HN, hbd, rfl⟩ := hrel
      by_cases hit : i < 4
      · have hit' : (i : Int) < 4 := by omega
        have hil : i < s.size := by omega
        have hil' : (i : Int) < (s.size : Int) := by omega
        have hbi := bAt_byte s i hil
        have hnx : 64 * n + s[i].toNat % 64 = numR s.data.toList (i + 1 - 1) := by
          obtain ⟨j, rfl⟩ : ∃ j, i = j + 1 := ⟨i - 1, by omega⟩
          simp only [Nat.add_sub_cancel, numR]
          rw [hbi, unhide HN]
          rfl
        have HNX := hide hnx
        have hbd2 : Bnd (i + 1) (64 * n + s[i].toNat % 64) := by
          unfold Bnd at hbd ⊢
          omega
        have hn6 : n < 131072 := by unfold Bnd at hbd; omega
        have HBD := hide hbd2
        have hx := s[i].toNat_lt
        clear hnx hbd2 hbd hbi
        go_wp2
        exact ⟨⟨i + 1, 64 * n + s[i].toNat % 64, by go_num, by go_num, by omega, by omega, HNX, unhide HBD, trivial⟩, by simp [intOf]; omega⟩
      · have hiM : i = 4 := by omega
        have hit' : ¬ (i : Int) < 4 := by omega
        have hn6 : n < 8388608 := by unfold Bnd at hbd; omega
        have hnum : numR s.data.toList (4 - 1) = n := by have := unhide HN; rw [hiM] at this; exact this.symm
        have HIS := hide (fun W => is_any (n : Int) W)
        have hM := unhide HM
        have hsM : (4 : Int) ≤ (s.size : Int) := by omega
        cases hil : isL (n : Int) with
        | false =>
          have hno := next_no (unhide HNE) (by intro hk; have := hk.2.1; rw [hM, hnum, hil] at this; cases this)
          rw [hil] at HIS
          have HNO := hide hno
          clear hno hnum hM hil hbd
          go_wp2
          go_quiet ((go_at_call 42; exact Calls.quiet_of_same (unhide HIS _)))
          go_wp2
          go_ret2
          exact ⟨by rw [unhide HNO]; rfl, below_drewN (Below.refl _ _) _⟩
        | true =>
          have HONE := hide (fun W => oneB_any (n : Int) W hil)
          rw [hil] at HIS
          have hte : (s.extract 0 4).data.toList = s.data.toList.take 4 := toList_upto s 4
          obtain ⟨x, hx⟩ : ∃ x, bts (Lib.encodeRune (n : Int)) = x := ⟨_, rfl⟩
          rw [hx] at HONE
          have hyb := beqS x (s.extract 0 4)
          by_cases hxy : x = s.extract 0 4
          · have hok : okR s.data.toList := ⟨by rw [hM, unhide HSL]; omega, by rw [hM, hnum]; exact hil, by rw [hM, hnum, ← hte, ← hxy, ← hx, toList_bts]⟩
            have hno := next_ok hok
            rw [hM, hnum] at hno
            have HNO := hide hno
            rw [decide_eq_true hxy] at hyb
            clear hno hok hnum hM hil hte hx hxy hbd
            go_wp2
            go_region_with (first | (go_at_call 42; refine (unhide HIS _).mono ?_; rintro e w2 ⟨rfl, rfl⟩) | (go_at_call 85; refine (unhide HONE _).mono ?_; rintro e w2 ⟨rfl, b2⟩))
            all_goals
              have HB5 := hide b2
              clear b2
              go_wp2
              go_ret2
              refine ⟨by rw [unhide HNO]; rfl, ?_⟩
              have h := unhide HB5
              exact ⟨h.os, h.tape, h.output, h.size, h.block⟩
          · have hno := next_no (unhide HNE) (by
              intro hk
              have := hk.2.2
              rw [hM, hnum, ← hte] at this
              exact hxy (by rw [← hx]; apply ext_list; rw [toList_bts]; exact this))
            have HNO := hide hno
            rw [decide_eq_false hxy] at hyb
            clear hno hnum hM hil hte hx hxy hbd
            go_wp2
            go_region_with (first | (go_at_call 42; refine (unhide HIS _).mono ?_; rintro e w2 ⟨rfl, rfl⟩) | (go_at_call 85; refine (unhide HONE _).mono ?_; rintro e w2 ⟨rfl, b2⟩))
            all_goals
              have HB5 := hide b2
              clear b2
              go_wp2
              go_ret2
              refine ⟨by rw [unhide HNO]; rfl, ?_⟩
              have h := unhide HB5
              exact ⟨h.os, h.tape, h.output, h.size, h.block⟩
end Go.Proofs.YtdallfakfhajdaaGreatDoor

/-
  What missiveref06.next does, over this seat's program: the letter that bytes begin with.
-/
set_option linter.unusedVariables false
namespace Go.Proofs.YtdallfakfhajdaaGreatDoor
open Go.RowKit Go.Proofs.Rns Go.Proofs.Nxr

/-- missiveref06.next tells the letter that bytes begin with. -/
theorem refNext_any (s : ByteArray) (w : World) (h0 : 0 < s.size) (hs : s.size ≤ 40000000) :
    Calls Tryz.prog 118 #[.string s] w fun e w' => e = .returned (.tuple #[.int .i32 ((nextL s.data.toList).1 : Int), .int .i64 ((nextL s.data.toList).2 : Int)]) ∧ Below w.heap.size w w' := by
  by_cases c4 : 240 ≤ s[0].toNat ∧ s[0].toNat < 248
  · exact refNext_4 s w h0 hs c4
  · by_cases c3 : 224 ≤ s[0].toNat ∧ s[0].toNat < 240
    · exact refNext_3 s w h0 hs c3
    · by_cases c2 : 192 ≤ s[0].toNat ∧ s[0].toNat < 224
      · exact refNext_2 s w h0 hs c2
      · exact refNext_1 s w h0 hs (by omega)
end Go.Proofs.YtdallfakfhajdaaGreatDoor

/-
  What missiveref06.Letters does, over this seat's program: bytes' letters, as the document says.
-/
set_option linter.unusedVariables false
namespace Go.Proofs.YtdallfakfhajdaaGreatDoor
open Go.RowKit Go.Proofs.Rns

theorem emptyS (s : ByteArray) : s.toList.isEmpty = decide (s.size = 0) := by
  rw [ByteArray.toList_eq, ← sizeL]
  cases s.data.toList <;> simp
/-- How long a text is. -/
def sizeV : Value → Nat
  | .string s => s.size
  | _ => 0
theorem own_upL {w wr w2 : World} {o : Obj} {B size : Nat} {e : TypeId} {v : Value} {n : Nat} {xs : List Value} (hown : wr.ownsRow B e size v n xs) (hgrow : (wr.alloc o).grownBy w2 v.ownBlock) (hbw : Below B w wr) (hB : B ≤ wr.heap.size) : Below B w w2 :=
  (hbw.alloc hB _).grown hgrow (by simp; omega) (fun k hk => by
    rcases hown.2 with ⟨rfl, _⟩ | ⟨g, cap, cur, rfl, hg, _⟩
    · simp [Value.ownBlock] at hk
    · simp [Value.ownBlock] at hk; omega)

set_option maxHeartbeats 1000000 in
set_option maxRecDepth 100000 in
/-- missiveref06.Letters tells the letters. -/
theorem refLetters_any (s : ByteArray) (w : World) (hs : s.size ≤ 4000000) :
    Calls Tryz.prog 75 #[.string s] w fun e w' => ∃ v, e = .returned v ∧ w'.ownsRow w.heap.size 21 1 v (lettersL s.data.toList).length (runeC (lettersL s.data.toList)) ∧ Below w.heap.size w w' := by
  obtain ⟨i0, hi, hz0, hz1, hz2⟩ := info_parts rInfo
  go_enter Tryz.func75, Tryz.ntmps75
  go_wp2
  go_loopw [0, 3] (fun y x wr => ∃ (t : ByteArray) (acc : List Nat), y = .string t ∧ t.size + acc.length ≤ s.size ∧ Hid (acc ++ lettersL t.data.toList = lettersL s.data.toList) ∧ Hid (wr.ownsRow w.heap.size 21 1 x acc.length (runeC acc)) ∧ Hid (Below w.heap.size w wr)) (fun y _ _ => sizeV y)
  case atStart => exact ⟨s, [], rfl, by simp, hide rfl, hide ⟨rfl, Or.inl ⟨rfl, rfl⟩⟩, hide (Below.refl _ _)⟩
  case round =>
    obtain ⟨t, acc, rfl, hta, HE, HO, HB⟩ := hrel
    have hzr := (unhide HB).size
    by_cases ht0 : t.size = 0
    · have he : t.toList.isEmpty = true := by rw [emptyS]; exact decide_eq_true ht0
      have hfin : acc = lettersL s.data.toList := by
        rw [← unhide HE]
        have : t.data.toList = [] := List.eq_nil_of_length_eq_zero (by rw [sizeL]; exact ht0)
        rw [this, lettersL_nil, List.append_nil]
      have HF := hide hfin
      clear hfin ht0
      go_wp2
      go_ret
      refine ⟨_, rfl, ?_, unhide HB⟩
      rw [← unhide HF]
      exact unhide HO
    · have he : t.toList.isEmpty = false := by rw [emptyS]; exact decide_eq_false ht0
      have hne : t.data.toList ≠ [] := by
        intro e
        have := sizeL t
        rw [e] at this
        simp at this
        omega
      have hle := nextL_le hne
      rw [sizeL] at hle
      have HN := hide (refNext_any t wr (by omega) (by omega))
      have hst := lettersL_cons hne
      have HE2 := hide (unhide HE)
      rw [hst] at HE2
      generalize (nextL t.data.toList).1 = r at HN HE2
      generalize (nextL t.data.toList).2 = m at HN HE2 hle
      have hm' : (m : Int) ≤ (t.size : Int) := by omega
      clear hne hst HE ht0
      go_wp2_with fail
      refine (unhide HN).mono ?_
      rintro e w5 ⟨rfl, b5⟩
      have hown5 := own_below (unhide HO) b5
      have hb5 := belows' (unhide HB) b5
      have hz5 := hb5.size
      have HB5 := hide hb5
      clear b5 hb5 HN
      go_wp2_with (at_builtin; refine wpList_append_own _ rfl _ _ 22 rfl w.heap.size 21 i0 (.int .i32 0) 1 4 Tryz.underlying22 hi hz0 hz1 hz2 rfl (by decide) _ _ _ rfl (hown5.alloc _) ⟨w5.heap.size, 0, none⟩ 1 1 [.int .i32 (r : Int)] rfl rfl (cell_one _ _ _) (by intro u hu; simp at hu; subst hu; rfl) (by unfold maxLen; omega) (by omega) (by simp; omega) ?_)
      intro v' w6 hown6 hgrow _
      rw [runeC_snoc] at hown6
      have HB6 := hide (own_upL hown5 hgrow (unhide HB5) hz5)
      have HO6 := hide hown6
      clear hown5 hown6 hgrow
      go_wp2
      refine ⟨⟨t.extract m t.size, acc ++ [r], rfl, ?_, ?_, by simpa using HO6, HB6⟩, ?_⟩
      · rw [size_part t m t.size (Nat.le_refl _)]; simp; omega
      · rw [toList_from, ← unhide HE2]; exact hide (by simp)
      · simp only [sizeV]; rw [size_part t m t.size (Nat.le_refl _)]; omega
end Go.Proofs.YtdallfakfhajdaaGreatDoor

/-
  What the document's Name of layer 6 does, over this seat's program.
-/
set_option linter.unusedVariables false
namespace Go.Proofs.YtdallfakfhajdaaGreatDoor
open Go.RowKit Go.Proofs.Rns

set_option maxHeartbeats 1000000 in
set_option maxRecDepth 100000 in
/-- The document's Name. -/
theorem refName_any (c : Nat) (w : World) (hc : c < 256) :
    Calls Tryz.prog 74 #[.int .u8 c] w fun e w' => e = .returned (.tuple #[.string (bts (nameR c).1), .int .i64 (nameR c).2]) ∧ w' = w := by
  by_cases h1 : c = 1
  · have hb : ((c : Int) == 1) = true := by rw [h1]; rfl
    rw [show nameR c = ([85, 83, 45, 65, 83, 67, 73, 73], 0) by rw [h1]; decide +kernel]
    clear h1
    go_enter Tryz.func74, Tryz.ntmps74
    go_wp2
    go_ret2
    exact ⟨rfl, rfl⟩
  have b1x : ((c : Int) == 1) = false := by simp; omega
  by_cases h2 : c = 2
  · have hb : ((c : Int) == 2) = true := by rw [h2]; rfl
    rw [show nameR c = ([85, 84, 70, 45, 56], 0) by rw [h2]; decide +kernel]
    clear h1 h2
    go_enter Tryz.func74, Tryz.ntmps74
    go_wp2
    go_ret2
    exact ⟨rfl, rfl⟩
  have b2x : ((c : Int) == 2) = false := by simp; omega
  by_cases h3 : c = 3
  · have hb : ((c : Int) == 3) = true := by rw [h3]; rfl
    rw [show nameR c = ([73, 83, 79, 45, 56, 56, 53, 57, 45, 49], 0) by rw [h3]; decide +kernel]
    clear h1 h2 h3
    go_enter Tryz.func74, Tryz.ntmps74
    go_wp2
    go_ret2
    exact ⟨rfl, rfl⟩
  have b3x : ((c : Int) == 3) = false := by simp; omega
  by_cases h4 : c = 4
  · have hb : ((c : Int) == 4) = true := by rw [h4]; rfl
    rw [show nameR c = ([73, 83, 79, 45, 56, 56, 53, 57, 45, 49, 53], 0) by rw [h4]; decide +kernel]
    clear h1 h2 h3 h4
    go_enter Tryz.func74, Tryz.ntmps74
    go_wp2
    go_ret2
    exact ⟨rfl, rfl⟩
  have b4x : ((c : Int) == 4) = false := by simp; omega
  by_cases h5 : c = 5
  · have hb : ((c : Int) == 5) = true := by rw [h5]; rfl
    rw [show nameR c = ([87, 73, 78, 68, 79, 87, 83, 45, 49, 50, 53, 50], 0) by rw [h5]; decide +kernel]
    clear h1 h2 h3 h4 h5
    go_enter Tryz.func74, Tryz.ntmps74
    go_wp2
    go_ret2
    exact ⟨rfl, rfl⟩
  have b5x : ((c : Int) == 5) = false := by simp; omega
  rw [show nameR c = ([], 14) by simp only [nameR, nameF, namesT, if_neg (show ¬ 1 = c from fun e => h1 e.symm), if_neg (show ¬ 2 = c from fun e => h2 e.symm), if_neg (show ¬ 3 = c from fun e => h3 e.symm), if_neg (show ¬ 4 = c from fun e => h4 e.symm), if_neg (show ¬ 5 = c from fun e => h5 e.symm)]]
  clear h1 h2 h3 h4 h5
  go_enter Tryz.func74, Tryz.ntmps74
  go_wp2
  go_ret2
  exact ⟨rfl, rfl⟩
end Go.Proofs.YtdallfakfhajdaaGreatDoor

/-
  What missiveref06.Decode does, over this seat's program: bytes' letters in a charset, as the document says.
-/
set_option linter.unusedVariables false
namespace Go.Proofs.YtdallfakfhajdaaGreatDoor
open Go.RowKit Go.Proofs.Rns

set_option maxHeartbeats 1000000 in
set_option maxRecDepth 100000 in
/-- missiveref06.Decode tells the letters, or the error. -/
theorem refDecode_any (c : Nat) (s : ByteArray) (w : World) (hc : c < 256) (hs : s.size ≤ 4000000) :
    Calls Tryz.prog 34 #[.int .u8 c, .string s] w fun e w' => ∃ v, e = .returned (.tuple #[v, .int .i64 (decR c s.data.toList).2]) ∧ w'.ownsRow w.heap.size 21 1 v (decR c s.data.toList).1.length (runeC (decR c s.data.toList).1) ∧ Below w.heap.size w w' := by
  obtain ⟨i0, hi, hz0, hz1, hz2⟩ := info_parts rInfo
  have hsl := sizeL s
  have HN := hide (refName_any c w hc)
  unfold decR
  by_cases h : 1 ≤ c ∧ c ≤ 5
  · rw [if_pos h]
    have hn2 : (nameR c).2 = 0 := by
      rcases (show c = 1 ∨ c = 2 ∨ c = 3 ∨ c = 4 ∨ c = 5 by omega) with rfl | rfl | rfl | rfl | rfl <;> rfl
    rw [hn2] at HN
    generalize bts (nameR c).1 = nm at HN
    simp only
    by_cases h2 : c = 2
    · have e2 : ((c : Int) == 2) = true := by simp [h2]
      have HL := hide (refLetters_any s w hs)
      have ed : decL c s.data.toList = lettersL s.data.toList := by unfold decL; rw [if_pos h2]
      rw [ed]
      clear ed h2 h hn2 hsl
      go_enter Tryz.func34, Tryz.ntmps34
      go_wp2_with fail
      refine (unhide HN).mono ?_
      rintro e w1 ⟨rfl, rfl⟩
      go_wp2_with fail
      refine (unhide HL).mono ?_
      rintro e w2 ⟨v, rfl, hown, hb⟩
      have HO := hide hown
      have HB := hide hb
      clear hown hb
      go_wp2
      go_ret2
      exact ⟨v, rfl, unhide HO, unhide HB⟩
    · have e2 : ((c : Int) == 2) = false := by simp; omega
      have ed : decL c s.data.toList = s.data.toList.map fun b => ofB c b.toNat := by unfold decL; rw [if_neg h2]
      rw [ed]
      clear ed h2 h hn2
      go_enter Tryz.func34, Tryz.ntmps34
      go_wp2_with fail
      refine (unhide HN).mono ?_
      rintro e w1 ⟨rfl, rfl⟩
      go_wp2
      go_loopw [8, 9] (fun x z wr => ∃ (k : Nat) (acc : List Nat), z = .int .i64 k ∧ k ≤ s.size ∧ acc.length ≤ k ∧ Hid (acc = (s.data.toList.take k).map fun b => ofB c b.toNat) ∧ Hid (wr.ownsRow w1.heap.size 21 1 x acc.length (runeC acc)) ∧ Hid (Below w1.heap.size w1 wr)) (fun _ z _ => s.size - (intOf z).toNat)
      case atStart => exact ⟨0, [], rfl, Nat.zero_le _, Nat.le_refl _, hide rfl, hide ⟨rfl, Or.inl ⟨rfl, rfl⟩⟩, hide (Below.refl _ _)⟩
      case round =>
        obtain ⟨k, acc, rfl, hk, hacc, HE, HO, HB⟩ := hrel
        by_cases hlt : k < s.size
        · have hlt1 : (k : Int) < (s.size : Int) := by omega
          have HOF := hide (refOf_any c s[k].toNat wr hc s[k].toNat_lt)
          have hst : acc ++ [ofB c s[k].toNat] = (s.data.toList.take (k + 1)).map fun b => ofB c b.toNat := by
            rw [take_byte s k hlt, List.map_append, unhide HE]; rfl
          have HST := hide hst
          generalize ofB c s[k].toNat = r at HOF HST
          clear hst
          go_wp2_with fail
          refine (unhide HOF).mono ?_
          rintro e w5 ⟨rfl, b5⟩
          have hown5 := own_below (unhide HO) b5
          have hb5 := belows' (unhide HB) b5
          have hz5 := hb5.size
          have HB5 := hide hb5
          clear b5 hb5 HOF
          go_wp2_with (at_builtin; refine wpList_append_own _ rfl _ _ 22 rfl w1.heap.size 21 i0 (.int .i32 0) 1 4 Tryz.underlying22 hi hz0 hz1 hz2 rfl (by decide) _ _ _ rfl (hown5.alloc _) ⟨w5.heap.size, 0, none⟩ 1 1 [.int .i32 (r : Int)] rfl rfl (cell_one _ _ _) (by intro u hu; simp at hu; subst hu; rfl) (by unfold maxLen; omega) (by omega) (by simp; omega) ?_)
          intro v' w6 hown6 hgrow _
          rw [runeC_snoc] at hown6
          have HB6 := hide (own_upL hown5 hgrow (unhide HB5) hz5)
          have HO6 := hide hown6
          clear hown5 hown6 hgrow
          go_wp2
          exact ⟨⟨k + 1, acc ++ [r], by go_num, by omega, by simp; omega, HST, by simpa using HO6, HB6⟩, by simp [intOf]; omega⟩
        · have hlt1 : ¬ (k : Int) < (s.size : Int) := by omega
          have he := unhide HE
          rw [List.take_of_length_le (by omega)] at he
          have HE2 := hide he
          clear he HE
          go_wp2
          go_ret2
          refine ⟨u8, rfl, ?_, unhide HB⟩
          have h9 := unhide HO
          rw [unhide HE2] at h9
          simpa using h9
  · rw [if_neg h]
    have hn2 : (nameR c).2 = 14 := by
      unfold nameR namesT
      simp only [nameF]
      repeat rw [if_neg (by omega)]
    rw [hn2] at HN
    generalize bts (nameR c).1 = nm at HN
    clear h hn2 hsl
    go_enter Tryz.func34, Tryz.ntmps34
    go_wp2_with fail
    refine (unhide HN).mono ?_
    rintro e w1 ⟨rfl, rfl⟩
    go_wp2
    go_ret2
    exact ⟨_, rfl, ⟨rfl, Or.inl ⟨rfl, rfl⟩⟩, Below.refl _ _⟩
end Go.Proofs.YtdallfakfhajdaaGreatDoor

/-
  What missiveref09.One does, over this seat's program: the word that a text begins with.
-/
set_option linter.unusedVariables false
namespace Go.Proofs.YtdallfakfhajdaaGreatDoor
open Go.RowKit Go.Proofs.Enc Go.Proofs.Rns

def aS (o : Option (List UInt8 × List UInt8)) : ByteArray := match o with
  | some p => bts p.1
  | none => ⟨#[]⟩
def bS (o : Option (List UInt8 × List UInt8)) : ByteArray := match o with
  | some p => bts p.2
  | none => ⟨#[]⟩
theorem partV_eq (o : Option (List UInt8 × List UInt8)) : partV o = .tuple #[.string (aS o), .string (bS o), .bool o.isSome] := by cases o <;> rfl
theorem part_len {l : List UInt8} {p : List UInt8 × List UInt8} (h : partR l = some p) : p.1.length + p.2.length < l.length := by
  unfold partR at h
  cases hc : cutAt 63 l with
  | none => rw [hc] at h; cases h
  | some q =>
    rw [hc] at h
    simp only at h
    split at h
    · obtain rfl := Option.some.inj h
      have := congrArg List.length (cut_some (a := q.1) (b := q.2) hc).1
      simp at this
      omega
    · cases h
theorem bS_len (l : List UInt8) : (bS (partR l)).size ≤ l.length ∧ (aS (partR l)).size ≤ l.length := by
  cases h : partR l with
  | none => exact ⟨Nat.zero_le _, Nat.zero_le _⟩
  | some p =>
    have := part_len h
    simp only [bS, aS, size_bts]
    omega
/-- What One answers. -/
def OneIs (w : World) (l : List UInt8) (e : Ending) (w' : World) : Prop :=
  (oneD l = none ∧ e = .returned (.tuple #[.slice none 0 0, .string ⟨#[]⟩, .int .i64 7])) ∨
  (∃ p v, oneD l = some p ∧ e = .returned (.tuple #[v, .string (bts p.2), .int .i64 0]) ∧ w'.ownsRow w.heap.size 21 1 v p.1.length (runeC p.1))
theorem oneD_0 {l : List UInt8} (h : opW l = none) : oneD l = none := by unfold oneD; rw [h]
section
variable {l r : List UInt8} {p1 p2 p3 : List UInt8 × List UInt8} (h0 : opW l = some r)
include h0
theorem oneD_1 (h1 : partR r = none) : oneD l = none := by unfold oneD; rw [h0]; simp only; rw [h1]
theorem oneD_2 (h1 : partR r = some p1) (h2 : partR p1.2 = none) : oneD l = none := by unfold oneD; rw [h0]; simp only; rw [h1]; simp only; rw [h2]
theorem oneD_3 (h1 : partR r = some p1) (h2 : partR p1.2 = some p2) (h3 : partR p2.2 = none) : oneD l = none := by unfold oneD; rw [h0]; simp only; rw [h1]; simp only; rw [h2]; simp only; rw [h3]
theorem oneD_all (h1 : partR r = some p1) (h2 : partR p1.2 = some p2) (h3 : partR p2.2 = some p3) : oneD l = if p3.2.head? = some 61 then (if (namedR (cutD 42 p1.1).1).2 = 0 then (match bytesD p2.1 p3.1 with
            | none => none
            | some b => some ((decR (namedR (cutD 42 p1.1).1).1 b).1, p3.2.tail)) else none) else none := by
  unfold oneD; rw [h0]; simp only; rw [h1]; simp only; rw [h2]; simp only; rw [h3]
  rfl
end
theorem namedR_lt (u : List UInt8) : (namedR u).1 < 256 := by
  unfold namedR namesT
  simp only [namedF]
  repeat' split
  all_goals simp
theorem own_drewN {w : World} {B : Nat} {e : TypeId} {size : Nat} {v : Value} {n : Nat} {xs : List Value} (h : w.ownsRow B e size v n xs) (m : Nat) : (w.drewN m).ownsRow B e size v n xs := h
theorem two_ext (s : ByteArray) : (s.extract 0 2).toList = s.data.toList.take 2 := by
  rw [upto_bts, ByteArray.toList_eq, toList_bts]
theorem opW_take {l : List UInt8} (h : 2 ≤ l.length) : (opW l = none → l.take 2 ≠ [61, 63]) ∧ (∀ r, opW l = some r → l.take 2 = [61, 63]) := by
  match l, h with
  | a :: b :: t, _ =>
    unfold opW
    by_cases hab : a = 61 ∧ b = 63
    · simp [hab.1, hab.2]
    · simp only [if_neg hab, List.take_succ_cons, List.take_zero]
      refine ⟨fun _ e => hab ?_, fun r hr => by cases hr⟩
      simp at e
      exact e

set_option maxHeartbeats 4000000 in
set_option maxRecDepth 100000 in
theorem refOneW_any (s : ByteArray) (w : World) (hs : s.size ≤ 4000000) :
    Calls Tryz.prog 10 #[.string s] w fun e w' => OneIs w s.data.toList e w' ∧ Below w.heap.size w w' := by
  have hsl := sizeL s
  cases ho : opW s.data.toList with
  | none =>
    have HR : Hid (oneD s.data.toList = none) := hide (oneD_0 ho)
    by_cases h2 : s.size < 2
    · have h2' : (s.size : Int) < 2 := by omega
      clear ho hsl h2
      go_enter Tryz.func10, Tryz.ntmps10
      go_wp2
      go_ret3
      exact ⟨.inl ⟨unhide HR, rfl⟩, Below.refl _ _⟩
    · have h2' : ¬ (s.size : Int) < 2 := by omega
      have hs2 : 2 ≤ s.size := by omega
      have hne : ((s.extract 0 2).toList == [61, 63]) = false := by
        rw [two_ext, beq_eq_false_iff_ne]
        exact (opW_take (by omega)).1 ho
      clear ho hsl h2
      go_enter Tryz.func10, Tryz.ntmps10
      go_wp2
      go_ret3
      exact ⟨.inl ⟨unhide HR, rfl⟩, Below.refl _ _⟩
  | some r =>
    have hop := opW_some ho
    have hs2 : 2 ≤ s.size := by omega
    have h2' : ¬ (s.size : Int) < 2 := by omega
    have hne : ((s.extract 0 2).toList == [61, 63]) = true := by
      rw [two_ext, (opW_take (by omega)).2 r ho]
      rfl
    obtain ⟨t1, ht1⟩ : ∃ t1, t1 = s.extract 2 s.size := ⟨_, rfl⟩
    have htl : t1.data.toList = r := by rw [ht1, toList_from, hop.1]
    have hrl : r.length ≤ 4000000 := by rw [hop.1, List.length_drop]; omega
    have hz1 : t1.size ≤ 4000000 := by rw [← sizeL, htl]; exact hrl
    have HP1 := hide (fun W => refPart_any t1 W (by omega))
    rw [htl, partV_eq] at HP1
    obtain ⟨o1, ho1⟩ : ∃ o1, o1 = partR r := ⟨_, rfl⟩
    have hb1 := bS_len r
    rw [← ho1] at HP1 hb1
    have HP2 := hide (fun W => refPart_any (bS o1) W (by omega))
    rw [partV_eq] at HP2
    obtain ⟨o2, ho2⟩ : ∃ o2, o2 = partR (bS o1).data.toList := ⟨_, rfl⟩
    have hb2 := bS_len (bS o1).data.toList
    rw [← ho2, sizeL] at hb2
    rw [← ho2] at HP2
    have HP3 := hide (fun W => refPart_any (bS o2) W (by omega))
    rw [partV_eq] at HP3
    obtain ⟨o3, ho3⟩ : ∃ o3, o3 = partR (bS o2).data.toList := ⟨_, rfl⟩
    have hb3 := bS_len (bS o2).data.toList
    rw [← ho3, sizeL] at hb3
    rw [← ho3] at HP3
    have HO := hide (show opW s.data.toList = some r ∧ o1 = partR r ∧ o2 = partR (bS o1).data.toList ∧ o3 = partR (bS o2).data.toList from ⟨ho, ho1, ho2, ho3⟩)
    have HZ := hide (show (bS o1).size ≤ 4000000 ∧ (bS o2).size ≤ 4000000 ∧ (aS o3).size ≤ 4000000 ∧ (aS o1).size ≤ 4000000 by omega)
    have HT := hide ht1
    clear ho hop htl hrl ho1 ho2 ho3 hb1 hb2 hb3 hsl hz1
    subst ht1
    clear HT
    go_enter Tryz.func10, Tryz.ntmps10
    go_wp2_with fail
    refine (unhide HP1 _).mono ?_
    rintro e w1 ⟨rfl, b1⟩
    have HB1 := hide b1
    clear b1 HP1 hne h2'
    go_wp2_with fail
    refine (unhide HP2 _).mono ?_
    rintro e w2 ⟨rfl, b2⟩
    have HB2 := hide (belows' (unhide HB1) b2)
    clear b2 HP2 HB1
    go_wp2_with fail
    refine (unhide HP3 _).mono ?_
    rintro e w3 ⟨rfl, b3⟩
    have HB3 := hide (belows' (unhide HB2) b3)
    clear b3 HP3 HB2
    cases o1 with
    | none =>
      have HR : Hid (oneD s.data.toList = none) := hide (by obtain ⟨h0, h1, _⟩ := unhide HO; exact oneD_1 h0 h1.symm)
      simp only [Option.isSome_none]
      generalize bS o3 = y3
      generalize aS o3 = x3
      generalize o3.isSome = k3
      generalize o2.isSome = k2
      go_wp2
      go_ret3
      exact ⟨.inl ⟨unhide HR, rfl⟩, unhide HB3⟩
    | some p1 =>
      cases o2 with
      | none =>
        have HR : Hid (oneD s.data.toList = none) := hide (by
          obtain ⟨h0, h1, h2, _⟩ := unhide HO
          rw [show (bS (some p1)).data.toList = p1.2 from toList_bts _] at h2
          exact oneD_2 h0 h1.symm h2.symm)
        simp only [Option.isSome_none, Option.isSome_some]
        generalize bS o3 = y3
        generalize aS o3 = x3
        generalize o3.isSome = k3
        go_wp2
        go_ret3
        exact ⟨.inl ⟨unhide HR, rfl⟩, unhide HB3⟩
      | some p2 =>
        cases o3 with
        | none =>
          have HR : Hid (oneD s.data.toList = none) := hide (by
            obtain ⟨h0, h1, h2, h3⟩ := unhide HO
            rw [show (bS (some p1)).data.toList = p1.2 from toList_bts _] at h2
            rw [show (bS (some p2)).data.toList = p2.2 from toList_bts _] at h3
            exact oneD_3 h0 h1.symm h2.symm h3.symm)
          simp only [Option.isSome_none, Option.isSome_some]
          go_wp2
          go_ret3
          exact ⟨.inl ⟨unhide HR, rfl⟩, unhide HB3⟩
        | some p3 =>
          have hone : oneD s.data.toList = if p3.2.head? = some 61 then (if (namedR (cutD 42 p1.1).1).2 = 0 then (match bytesD p2.1 p3.1 with
              | none => none
              | some b => some ((decR (namedR (cutD 42 p1.1).1).1 b).1, p3.2.tail)) else none) else none := by
            obtain ⟨h0, h1, h2, h3⟩ := unhide HO
            rw [show (bS (some p1)).data.toList = p1.2 from toList_bts _] at h2
            rw [show (bS (some p2)).data.toList = p2.2 from toList_bts _] at h3
            exact oneD_all h0 h1.symm h2.symm h3.symm
          obtain ⟨z1, z2, z3, z4⟩ := unhide HZ
          simp only [bS, aS] at z1 z2 z3 z4
          clear HO HZ
          simp only [Option.isSome_some, aS, bS]
          have hy1 : (bts p1.1).data.toList = p1.1 := toList_bts _
          have HNM := hide (fun W => refNameW_any (bts p1.1) W (by omega))
          rw [hy1] at HNM
          have hcl : (bts (cutD 42 p1.1).1).size ≤ 4000000 := by
            have := cutD_len 42 p1.1
            rw [size_bts] at z4 ⊢
            omega
          have HND := hide (fun W => refNamed_any (bts (cutD 42 p1.1).1) W (by omega))
          rw [toList_bts] at HND
          have hct := namedR_lt (cutD 42 p1.1).1
          have HST := hide (fun W => refStrict_any (bts p3.1) W (by omega))
          have HPL := hide (fun W => refPlain_any (bts p3.1) W (by omega))
          rw [toList_bts] at HST HPL
          have hx2 : (bts p2.1).toList = p2.1 := by rw [ByteArray.toList_eq, toList_bts]
          have HLB : Hid (∀ b, bytesD p2.1 p3.1 = some b → b.length ≤ 4000000) := hide (fun b hb => by
            rw [← text_same] at hb
            have := textR_len hb
            rw [size_bts] at z3
            omega)
          generalize bts (cutD 42 p1.1).1 = nmb at HNM HND hcl
          obtain ⟨cc, hcc⟩ : ∃ cc, cc = (namedR (cutD 42 p1.1).1).1 := ⟨_, rfl⟩
          obtain ⟨nn, hnn⟩ : ∃ nn, nn = (namedR (cutD 42 p1.1).1).2 := ⟨_, rfl⟩
          rw [← hcc] at HND hct hone
          rw [← hnn] at HND hone
          clear hcc hnn hy1 hcl z4
          generalize bts p1.1 = x1 at HNM ⊢
          have HXX := hide hx2
          clear hx2
          generalize hg2 : bts p2.1 = x2 at HXX ⊢
          clear hg2
          generalize bts p3.1 = x3 at z3 HST HPL ⊢
          cases hp3 : p3.2 with
          | nil =>
            rw [hp3] at hone
            have HR : Hid (oneD s.data.toList = none) := hide (by rw [hone, if_neg (by simp)])
            have hem : (bts []).toList.isEmpty = true := by rw [empty_size]; rfl
            clear hone hp3
            generalize bts [] = y3 at hem ⊢
            generalize bts p1.2 = y1
            generalize bts p2.2 = y2
            go_wp2
            go_ret3
            exact ⟨.inl ⟨unhide HR, rfl⟩, unhide HB3⟩
          | cons c tl =>
            rw [hp3] at hone
            have hem : (bts (c :: tl)).toList.isEmpty = false := by rw [empty_size, size_bts]; exact decide_eq_false (by simp)
            have hyp : 0 < (bts (c :: tl)).size := by rw [size_bts]; simp
            have hy0 : (bts (c :: tl))[0] = c := rfl
            have HTL : Hid ((bts (c :: tl)).extract 1 (bts (c :: tl)).size = bts tl) := hide (by rw [behind_bts, toList_bts]; rfl)
            clear hp3 z1 z2
            generalize bts p1.2 = y1
            generalize bts p2.2 = y2
            by_cases h61 : c = 61
            · have h3 : (((bts (c :: tl))[0].toNat : Int) != 61) = false := by rw [hy0, h61]; rfl
              rw [if_pos (by simp [h61])] at hone
              clear hy0 h61
              generalize bts (c :: tl) = y3 at hem hyp HTL h3 ⊢
              by_cases hn : nn = 0
              · subst hn
                rw [if_pos rfl] at hone
                simp only [List.tail_cons] at hone
                have HON := hide hone
                clear hone
                go_wp2_with fail
                refine (unhide HNM _).mono ?_
                rintro e w4 ⟨rfl, h4⟩
                subst h4
                go_wp2_with fail
                refine (unhide HND _).mono ?_
                rintro e w5 ⟨rfl, b5⟩
                have HB5 := hide (belows' (unhide HB3) b5)
                clear b5 HB3 HNM HND
                by_cases q1 : p2.1 = [98]
                · have e1 : (x2.toList == [98]) = true := by rw [unhide HXX, q1]; rfl
                  have hbd : bytesD p2.1 p3.1 = (if (strictR p3.1).2 = 0 then some (strictR p3.1).1 else none) := by unfold bytesD; rw [if_pos (by simp [q1])]
                  have HON2 := unhide HON
                  rw [hbd] at HON2
                  by_cases hst : (strictR p3.1).2 = 0
                  · rw [if_pos hst] at HON2 hbd
                    simp only at HON2
                    have hbl := unhide HLB _ hbd
                    rw [hst] at HST
                    have HRW := hide HON2
                    have HDC := hide (fun W => refDecode_any cc (bts (strictR p3.1).1) W hct (by rw [size_bts]; exact hbl))
                    rw [toList_bts] at HDC
                    clear HON2 hbd hbl hst HON HXX HLB HPL q1
                    generalize (decR cc (strictR p3.1).1) = dd at HDC HRW
                    generalize bts (strictR p3.1).1 = bb at HST HDC
                    go_wp2_with fail
                    refine (unhide HST _).mono ?_
                    rintro e w6 ⟨rfl, b6⟩
                    have HB6 := hide (belows' (unhide HB5) b6)
                    clear b6 HST
                    go_wp2_with fail
                    refine (unhide HDC _).mono ?_
                    rintro e w7 ⟨v7, rfl, o7, b7⟩
                    have HB7 := hide (belows' (unhide HB6) b7)
                    have HO7 := hide (o7.mono (unhide HB6).size)
                    clear b7 o7 HDC HB6 HB5
                    go_wp2
                    go_quiet (fail)
                    go_wp2
                    go_ret3
                    exact ⟨.inr ⟨_, v7, unhide HRW, by rw [unhide HTL]; rfl, own_drewN (unhide HO7) _⟩, below_drewN (unhide HB7) _⟩
                  · rw [if_neg hst] at HON2
                    simp only at HON2
                    have hsf : (((strictR p3.1).2 : Int) == 0) = false := by rw [beq_eq_false_iff_ne]; omega
                    have HRW := hide HON2
                    clear HON2 hbd HON HXX HLB HPL hst q1
                    generalize (strictR p3.1).2 = sn at HST hsf
                    generalize bts (strictR p3.1).1 = bb at HST
                    go_wp2_with fail
                    refine (unhide HST _).mono ?_
                    rintro e w6 ⟨rfl, b6⟩
                    have HB6 := hide (belows' (unhide HB5) b6)
                    clear b6 HST
                    go_wp2
                    go_ret3
                    exact ⟨.inl ⟨unhide HRW, rfl⟩, unhide HB6⟩
                · have e1 : (x2.toList == [98]) = false := by rw [unhide HXX]; exact beq_eq_false_iff_ne.2 q1
                  by_cases q2 : p2.1 = [66]
                  · have e2 : (x2.toList == [66]) = true := by rw [unhide HXX, q2]; rfl
                    have hbd : bytesD p2.1 p3.1 = (if (strictR p3.1).2 = 0 then some (strictR p3.1).1 else none) := by unfold bytesD; rw [if_pos (by simp [q2])]
                    have HON2 := unhide HON
                    rw [hbd] at HON2
                    by_cases hst : (strictR p3.1).2 = 0
                    · rw [if_pos hst] at HON2 hbd
                      simp only at HON2
                      have hbl := unhide HLB _ hbd
                      rw [hst] at HST
                      have HRW := hide HON2
                      have HDC := hide (fun W => refDecode_any cc (bts (strictR p3.1).1) W hct (by rw [size_bts]; exact hbl))
                      rw [toList_bts] at HDC
                      clear HON2 hbd hbl hst HON HXX HLB HPL q1 q2
                      generalize (decR cc (strictR p3.1).1) = dd at HDC HRW
                      generalize bts (strictR p3.1).1 = bb at HST HDC
                      go_wp2_with fail
                      refine (unhide HST _).mono ?_
                      rintro e w6 ⟨rfl, b6⟩
                      have HB6 := hide (belows' (unhide HB5) b6)
                      clear b6 HST
                      go_wp2_with fail
                      refine (unhide HDC _).mono ?_
                      rintro e w7 ⟨v7, rfl, o7, b7⟩
                      have HB7 := hide (belows' (unhide HB6) b7)
                      have HO7 := hide (o7.mono (unhide HB6).size)
                      clear b7 o7 HDC HB6 HB5
                      go_wp2
                      go_quiet (fail)
                      go_wp2
                      go_ret3
                      exact ⟨.inr ⟨_, v7, unhide HRW, by rw [unhide HTL]; rfl, own_drewN (unhide HO7) _⟩, below_drewN (unhide HB7) _⟩
                    · rw [if_neg hst] at HON2
                      simp only at HON2
                      have hsf : (((strictR p3.1).2 : Int) == 0) = false := by rw [beq_eq_false_iff_ne]; omega
                      have HRW := hide HON2
                      clear HON2 hbd HON HXX HLB HPL hst q1 q2
                      generalize (strictR p3.1).2 = sn at HST hsf
                      generalize bts (strictR p3.1).1 = bb at HST
                      go_wp2_with fail
                      refine (unhide HST _).mono ?_
                      rintro e w6 ⟨rfl, b6⟩
                      have HB6 := hide (belows' (unhide HB5) b6)
                      clear b6 HST
                      go_wp2
                      go_ret3
                      exact ⟨.inl ⟨unhide HRW, rfl⟩, unhide HB6⟩
                  · have e2 : (x2.toList == [66]) = false := by rw [unhide HXX]; exact beq_eq_false_iff_ne.2 q2
                    by_cases q3 : p2.1 = [113]
                    · have e3 : (x2.toList == [113]) = true := by rw [unhide HXX, q3]; rfl
                      have hbd : bytesD p2.1 p3.1 = fromQR p3.1 := by unfold bytesD; rw [if_neg (by simp [q3]), if_pos (by simp [q3])]
                      have HON2 := unhide HON
                      rw [hbd] at HON2
                      cases hst : fromQR p3.1 with
                      | some b =>
                        rw [hst] at HON2 hbd HPL
                        simp only at HON2
                        simp only [optS] at HPL
                        have hbl := unhide HLB _ hbd
                        have HRW := hide HON2
                        have HDC := hide (fun W => refDecode_any cc (bts b) W hct (by rw [size_bts]; exact hbl))
                        rw [toList_bts] at HDC
                        clear HON2 hbd hbl hst HON HXX HLB HST q1 q2 q3
                        generalize (decR cc b) = dd at HDC HRW
                        generalize bts b = bb at HPL HDC
                        go_wp2_with fail
                        refine (unhide HPL _).mono ?_
                        rintro e w6 ⟨rfl, b6⟩
                        have HB6 := hide (belows' (unhide HB5) b6)
                        clear b6 HPL
                        go_wp2_with fail
                        refine (unhide HDC _).mono ?_
                        rintro e w7 ⟨v7, rfl, o7, b7⟩
                        have HB7 := hide (belows' (unhide HB6) b7)
                        have HO7 := hide (o7.mono (unhide HB6).size)
                        clear b7 o7 HDC HB6 HB5
                        go_wp2
                        go_quiet (fail)
                        go_wp2
                        go_ret3
                        exact ⟨.inr ⟨_, v7, unhide HRW, by rw [unhide HTL]; rfl, own_drewN (unhide HO7) _⟩, below_drewN (unhide HB7) _⟩
                      | none =>
                        rw [hst] at HON2 HPL
                        simp only at HON2
                        simp only [optS] at HPL
                        have HRW := hide HON2
                        clear HON2 hbd HON HXX HLB HST hst q1 q2 q3
                        generalize bts [] = bb at HPL
                        go_wp2_with fail
                        refine (unhide HPL _).mono ?_
                        rintro e w6 ⟨rfl, b6⟩
                        have HB6 := hide (belows' (unhide HB5) b6)
                        clear b6 HPL
                        go_wp2
                        go_ret3
                        exact ⟨.inl ⟨unhide HRW, rfl⟩, unhide HB6⟩
                    · have e3 : (x2.toList == [113]) = false := by rw [unhide HXX]; exact beq_eq_false_iff_ne.2 q3
                      by_cases q4 : p2.1 = [81]
                      · have e4 : (x2.toList == [81]) = true := by rw [unhide HXX, q4]; rfl
                        have hbd : bytesD p2.1 p3.1 = fromQR p3.1 := by unfold bytesD; rw [if_neg (by simp [q4]), if_pos (by simp [q4])]
                        have HON2 := unhide HON
                        rw [hbd] at HON2
                        cases hst : fromQR p3.1 with
                        | some b =>
                          rw [hst] at HON2 hbd HPL
                          simp only at HON2
                          simp only [optS] at HPL
                          have hbl := unhide HLB _ hbd
                          have HRW := hide HON2
                          have HDC := hide (fun W => refDecode_any cc (bts b) W hct (by rw [size_bts]; exact hbl))
                          rw [toList_bts] at HDC
                          clear HON2 hbd hbl hst HON HXX HLB HST q1 q2 q3 q4
                          generalize (decR cc b) = dd at HDC HRW
                          generalize bts b = bb at HPL HDC
                          go_wp2_with fail
                          refine (unhide HPL _).mono ?_
                          rintro e w6 ⟨rfl, b6⟩
                          have HB6 := hide (belows' (unhide HB5) b6)
                          clear b6 HPL
                          go_wp2_with fail
                          refine (unhide HDC _).mono ?_
                          rintro e w7 ⟨v7, rfl, o7, b7⟩
                          have HB7 := hide (belows' (unhide HB6) b7)
                          have HO7 := hide (o7.mono (unhide HB6).size)
                          clear b7 o7 HDC HB6 HB5
                          go_wp2
                          go_quiet (fail)
                          go_wp2
                          go_ret3
                          exact ⟨.inr ⟨_, v7, unhide HRW, by rw [unhide HTL]; rfl, own_drewN (unhide HO7) _⟩, below_drewN (unhide HB7) _⟩
                        | none =>
                          rw [hst] at HON2 HPL
                          simp only at HON2
                          simp only [optS] at HPL
                          have HRW := hide HON2
                          clear HON2 hbd HON HXX HLB HST hst q1 q2 q3 q4
                          generalize bts [] = bb at HPL
                          go_wp2_with fail
                          refine (unhide HPL _).mono ?_
                          rintro e w6 ⟨rfl, b6⟩
                          have HB6 := hide (belows' (unhide HB5) b6)
                          clear b6 HPL
                          go_wp2
                          go_ret3
                          exact ⟨.inl ⟨unhide HRW, rfl⟩, unhide HB6⟩
                      · have e4 : (x2.toList == [81]) = false := by rw [unhide HXX]; exact beq_eq_false_iff_ne.2 q4
                        have HRW : Hid (oneD s.data.toList = none) := hide (by
                          have h := unhide HON
                          rw [show bytesD p2.1 p3.1 = none by unfold bytesD; rw [if_neg (by simp [q1, q2]), if_neg (by simp [q3, q4])]] at h
                          exact h)
                        clear HON HXX HLB HST HPL q1 q2 q3 q4
                        go_wp2
                        go_ret3
                        exact ⟨.inl ⟨unhide HRW, rfl⟩, unhide HB5⟩
              · rw [if_neg hn] at hone
                have hnf : ((nn : Int) != 0) = true := by rw [bne_iff_ne]; omega
                have HRW := hide hone
                clear hone hn
                go_wp2_with fail
                refine (unhide HNM _).mono ?_
                rintro e w4 ⟨rfl, h4⟩
                subst h4
                go_wp2_with fail
                refine (unhide HND _).mono ?_
                rintro e w5 ⟨rfl, b5⟩
                have HB5 := hide (belows' (unhide HB3) b5)
                clear b5
                go_wp2
                go_ret3
                exact ⟨.inl ⟨unhide HRW, rfl⟩, unhide HB5⟩
            · have h3 : (((bts (c :: tl))[0].toNat : Int) != 61) = true := by
                rw [hy0, bne_iff_ne]
                intro e
                exact h61 (UInt8.toNat_inj.mp (by have : (61 : UInt8).toNat = 61 := rfl; omega))
              have HRW : Hid (oneD s.data.toList = none) := hide (by rw [hone, if_neg (by simpa using h61)])
              clear hy0 h61 hone
              generalize bts (c :: tl) = y3 at hem hyp HTL h3 ⊢
              go_wp2
              go_ret3
              exact ⟨.inl ⟨unhide HRW, rfl⟩, unhide HB3⟩
end Go.Proofs.YtdallfakfhajdaaGreatDoor

/-
  append of letters that came in to letters of the call's own, over this seat's program.
-/
set_option linter.unusedVariables false
namespace Go.Proofs.YtdallfakfhajdaaGreatDoor
open Go.RowKit Go.Proofs.Rns

/-- Letters' cells. -/
def intC (l : List Int) : List Value := l.map fun n => Value.int .i32 n
theorem intC_length (l : List Int) : (intC l).length = l.length := by simp [intC]
theorem add_off (b off j : Nat) : Addr.add ⟨b, off, none⟩ j = ⟨b, off + j, none⟩ := by
  unfold Addr.add
  by_cases h0 : j = 0
  · simp [h0]
  · simp [h0]
/-- A row of letters of the call's own, as letters. -/
theorem own_rowC {w : World} {B : Nat} {v : Value} {l : List Int} (h : w.ownsRow B 21 1 v l.length (intC l)) (hr : ∀ n ∈ l, -2147483648 ≤ n ∧ n ≤ 2147483647) : RowI w v l := by
  rcases h.2 with ⟨hv, h0⟩ | ⟨g, cap, cur, hv, hg, hh, hn', hm, hs, ht⟩
  · have : l = [] := List.eq_nil_of_length_eq_zero h0
    subst this
    exact ⟨none, 0, by rw [hv]; rfl, hr, Or.inl rfl⟩
  · refine ⟨some ⟨g, 0, none⟩, cap, hv, hr, Or.inr ⟨g, 0, rfl, (Array.getElem?_eq_some_iff.1 hh).1, fun j hj => ?_⟩⟩
    have h1 : (cur.toList.take (l.length * 1))[j]? = (intC l)[j]? := by rw [ht]
    have h2 : (intC l)[j]? = some (.int .i32 l[j]) := by simp [intC, List.getElem?_eq_getElem hj]
    rw [h2, List.getElem?_take, if_pos (by omega)] at h1
    simp only [World.cell?, hh]
    simpa using h1
theorem RowI.len {w : World} {v : Value} {l : List Int} (h : RowI w v l) : ∃ a cap, v = .slice a l.length cap := by
  obtain ⟨a, cap, hv, _⟩ := h
  exact ⟨a, cap, hv⟩
theorem RowI.range {w : World} {v : Value} {l : List Int} (h : RowI w v l) : ∀ n ∈ l, -2147483648 ≤ n ∧ n ≤ 2147483647 := by
  obtain ⟨a, cap, hv, hr, _⟩ := h
  exact hr

/-- The run of such an append. -/
theorem run_append_rowI (w : World) (B : Nat) (v x : Value) (k l : List Int) (ty : TypeId) (hown : w.ownsRow B 21 1 v k.length (intC k)) (hx : RowI w x l) (hnt : Neat x) (hkl : k.length + l.length ≤ 4194304) (hB : B ≤ w.heap.size) :
    ∃ v' w', (Builtin.append_ #[22, 22] ty #[v, x]).run Tryz.prog w = .ok v' w' ∧ w'.ownsRow B 21 1 v' (k ++ l).length (intC (k ++ l)) ∧ Below B w w' ∧ (l ≠ [] → v' ≠ .slice none 0 0) ∧ (v ≠ .slice none 0 0 → v' ≠ .slice none 0 0) := by
  obtain ⟨i0, hi, hz0, hz1, hz2⟩ := info_parts rInfo
  obtain ⟨a, cap, rfl, hr, hc⟩ := hx
  cases a with
  | none =>
    obtain ⟨h0, rfl⟩ := hnt _ _ rfl
    have hl : l = [] := List.eq_nil_of_length_eq_zero h0
    subst hl
    refine ⟨v, w, run_append_owned_none (P := Tryz.prog) (w := w) B 22 ty 21 i0 1 Tryz.underlying22 hi v _ _ hown, by simpa using hown, Below.refl _ _, fun h => absurd rfl h, fun h => h⟩
  | some ad =>
    have hnews : ∀ j u, (intC l)[j]? = some u → w.cell? (ad.add j) = some u := by
      intro j u hj
      rcases hc with hc | ⟨b, off, ha, hlt, hc⟩
      · subst hc; simp [intC] at hj
      · obtain rfl := Option.some.inj ha
        rw [add_off]
        have hjl : j < l.length := by
          rcases Nat.lt_or_ge j l.length with h | h
          · exact h
          · rw [List.getElem?_eq_none (by simpa [intC] using h)] at hj; simp at hj
        rw [hc j hjl]
        simp [intC, List.getElem?_eq_getElem hjl] at hj
        rw [← hj]
    obtain ⟨v', w', hrun, h2, h3, h4⟩ := run_append_own (P := Tryz.prog) w B 22 ty 21 i0 (.int .i32 0) 1 4 Tryz.underlying22 hi hz0 hz1 hz2 rfl (by decide) v k.length (intC k) hown ad l.length cap (intC l) (by simp [intC]) hnews (by intro u hu; simp [intC] at hu; obtain ⟨n, _, rfl⟩ := hu; rfl) (by unfold maxLen; omega) (by omega) hB
    refine ⟨v', w', hrun, by simpa [intC] using h2, ?_, ?_, ?_⟩
    · refine ⟨h3.os, h3.tape, h3.output, h3.size, fun i hi' => h3.block i (by omega) ?_⟩
      rcases hown.2 with ⟨rfl, _⟩ | ⟨g, cap, cur, rfl, hg, _⟩
      · simp [Value.ownBlock]
      · simp [Value.ownBlock]; omega
    · intro hl e
      have := (h4.mp e).2
      exact hl (List.eq_nil_of_length_eq_zero this)
    · intro hv e
      exact hv (h4.mp e).1
/-- An append whose run is known, guarded or not. -/
theorem wpList_append_run {P : Program} {w w' : World} {v v' xv : Value} {ty : TypeId} {ops : Array Oper} {rest : List Oper} {o : Oper} {a : Act} {Q : Exit → Act → World → Prop} (hw : Region.wanted o (yielded ops a.tmps) = true) (s x : Operand) (t : TypeId)
    (ho : o.op = .call { callee := .builtin .append, args := #[s, x], argTypes := #[t, t] }) (hty : o.type = ty) (hs : a.eval s = v) (hx : a.eval x = xv)
    (hrun : (Builtin.append_ #[t, t] ty #[v, xv]).run P w = .ok v' w')
    (h : wpList P ops Q rest (a.put o.dst v') w') : wpList P ops Q (o :: rest) a w := by
  refine wpList_step fun K hK => ?_
  rw [if_pos hw]
  subst hty
  unfold Oper.wp
  simp [execOp, ho, resolve, invoke, builtin, hs, hx, hrun, Result.andThen]
  exact hK _ _ h
/-- An empty literal. -/
theorem own_empty (w : World) : (w.alloc (.cells #[] 21)).ownsRow w.heap.size 21 1 (.slice (some ⟨w.heap.size, 0, none⟩) 0 0) ([] : List Int).length (intC []) :=
  World.ownsRow_lit w #[] 0 (Nat.le_refl _) (by unfold maxLen; omega) rfl
theorem neat_some (a : Addr) (n cap : Nat) : Neat (.slice (some a) n cap) := by
  intro m c h
  simp at h
theorem own_neat {w : World} {B : Nat} {e : TypeId} {size : Nat} {v : Value} {n : Nat} {xs : List Value} (h : w.ownsRow B e size v n xs) : Neat v := by
  rcases h.2 with ⟨rfl, rfl⟩ | ⟨g, cap, cur, rfl, _⟩
  · intro m c h
    simp at h
    exact ⟨h.1.symm, h.2.symm⟩
  · exact neat_some _ _ _
end Go.Proofs.YtdallfakfhajdaaGreatDoor

/-
  What missiveref09.blank, Both, Decode and Words do, over this seat's program.
-/
set_option linter.unusedVariables false
namespace Go.Proofs.YtdallfakfhajdaaGreatDoor
open Go.RowKit Go.Proofs.Enc Go.Proofs.Rns

def skB (l : List UInt8) : List UInt8 := l.dropWhile isBl
theorem skB_nil {l : List UInt8} : skB l = [] ↔ blL l = true := dropWhile_nil l

set_option maxHeartbeats 2000000 in
set_option maxRecDepth 100000 in
theorem refBlankW_any (s : ByteArray) (w : World) (hs : s.size ≤ 40000000) :
    Calls Tryz.prog 79 #[.string s] w fun e w' => (∃ r : ByteArray, e = .returned (.string r) ∧ r.data.toList = skB s.data.toList) ∧ w' = w := by
  go_enter Tryz.func79, Tryz.ntmps79
  go_wp2
  go_loop [0] (fun z => ∃ r : ByteArray, z = .string r ∧ r.size ≤ s.size ∧ Hid (skB r.data.toList = skB s.data.toList)) (fun z => match z with | .string r => r.size | _ => 0)
  case atStart => exact ⟨s, rfl, Nat.le_refl _, hide rfl⟩
  case round =>
    obtain ⟨r, rfl, hr, HE⟩ := hrel
    by_cases h0 : r.size = 0
    · have hem : r.toList.isEmpty = true := by rw [empty_size]; exact decide_eq_true h0
      have HF : Hid (r.data.toList = skB s.data.toList) := hide (by
        rw [← unhide HE, (show r.data.toList = [] from List.eq_nil_of_length_eq_zero (by rw [sizeL]; exact h0))]
        rfl)
      clear HE
      go_wp2
      go_ret
      exact ⟨⟨r, rfl, unhide HF⟩, rfl⟩
    · have hem : r.toList.isEmpty = false := by rw [empty_size]; exact decide_eq_false h0
      have hp : 0 < r.size := by omega
      have hd := drop_byte r 0 hp
      rw [List.drop_zero, Nat.zero_add] at hd
      have HN : Hid ((r.extract 1 r.size).data.toList = r.data.toList.drop 1) := hide (toList_from r 1)
      have hz : (r.extract 1 r.size).size = r.size - 1 := by rw [← sizeL, toList_from, List.length_drop, sizeL]
      by_cases h32 : r[0] = 32
      · have e1 : ((r[0].toNat : Int) == 32) = true := by rw [h32]; rfl
        have HE2 : Hid (skB (r.extract 1 r.size).data.toList = skB s.data.toList) := hide (by
          rw [unhide HN, ← unhide HE]
          conv => rhs; rw [hd, h32]
          rfl)
        clear HE HN hd h32
        go_wp2
        exact ⟨⟨_, rfl, by omega, HE2⟩, by show (r.extract 1 r.size).size < r.size; omega⟩
      · have e1 : ((r[0].toNat : Int) == 32) = false := by
          rw [beq_eq_false_iff_ne]
          intro e
          exact h32 (UInt8.toNat_inj.mp (by have : (32 : UInt8).toNat = 32 := rfl; omega))
        by_cases h9 : r[0] = 9
        · have e2 : ((r[0].toNat : Int) == 9) = true := by rw [h9]; rfl
          have HE2 : Hid (skB (r.extract 1 r.size).data.toList = skB s.data.toList) := hide (by
            rw [unhide HN, ← unhide HE]
            conv => rhs; rw [hd, h9]
            rfl)
          clear HE HN hd h9 h32
          go_wp2
          exact ⟨⟨_, rfl, by omega, HE2⟩, by show (r.extract 1 r.size).size < r.size; omega⟩
        · have e2 : ((r[0].toNat : Int) == 9) = false := by
            rw [beq_eq_false_iff_ne]
            intro e
            exact h9 (UInt8.toNat_inj.mp (by have : (9 : UInt8).toNat = 9 := rfl; omega))
          have HF : Hid (r.data.toList = skB s.data.toList) := hide (by
            rw [← unhide HE]
            conv => rhs; rw [hd]
            unfold skB
            rw [List.dropWhile_cons, show isBl r[0] = false by unfold isBl; simp [h32, h9]]
            exact hd)
          clear HE HN hd h9 h32
          go_wp2
          go_ret
          exact ⟨⟨r, rfl, unhide HF⟩, rfl⟩

theorem rdL_is (l : List UInt8) : ∀ n ∈ rdL (rdW l), isL (n : Int) = true := by
  unfold rdW
  cases opW l with
  | none => simp [rdL]
  | some r =>
    simp only
    unfold rdP
    split
    · split
      · split
        · simp [rdL]
        · exact decR_is _ _
      · simp [rdL]
    · simp [rdL]
theorem one_miss {l : List UInt8} (h : oneD l = none) : rdN (rdW l) = 0 := by
  rw [one_same] at h
  unfold oneR' at h
  split at h
  · assumption
  · cases h
theorem one_hit {l : List UInt8} {p : List Nat × List UInt8} (h : oneD l = some p) : rdN (rdW l) ≠ 0 ∧ p = (rdL (rdW l), l.drop (rdN (rdW l))) := by
  rw [one_same] at h
  unfold oneR' at h
  split at h
  · cases h
  · rename_i hn
    exact ⟨hn, (Option.some.inj h).symm⟩
theorem runeC_ints (l : List Nat) : runeC l = intC (ints l) := by simp [runeC, intC, ints]
theorem ints_len (l : List Nat) : (ints l).length = l.length := by simp [ints]
theorem BothJ.out_le {s0 run s : List UInt8} {f many : Nat} {o : List Nat} {bw : Bool} (h : BothJ s0 f o many run s bw) : o.length ≤ s0.length ∧ many ≤ s0.length := by
  have h1 := pcW_few s0
  have h2 : wdN (pcW s0) ≤ s0.length := pcF_words _ _ _
  have h3 := congrArg List.length h.flat
  have h4 := h.num
  unfold flP at h3
  rw [List.length_append] at h3
  omega
theorem ints_cat2 (a b : List Nat) : ints (a ++ b) = ints a ++ ints b := by simp [ints]
theorem isL_range {l : List Nat} (h : ∀ n ∈ l, isL (n : Int) = true) : ∀ n ∈ ints l, -2147483648 ≤ n ∧ n ≤ 2147483647 := by
  intro n hn
  obtain ⟨m, hm, rfl⟩ := List.mem_map.1 hn
  have := of_decide_eq_true (h m hm)
  have e : Int.ofNat m = (m : Int) := rfl
  omega

/-- append of letters, with what is known of all other blocks. -/
theorem run_append_rowG (w : World) (B : Nat) (v x : Value) (k l : List Int) (ty : TypeId) (hown : w.ownsRow B 21 1 v k.length (intC k)) (hx : RowI w x l) (hnt : Neat x) (hkl : k.length + l.length ≤ 4194304) (hB : B ≤ w.heap.size) :
    ∃ v' w', (Builtin.append_ #[22, 22] ty #[v, x]).run Tryz.prog w = .ok v' w' ∧ w'.ownsRow B 21 1 v' (k ++ l).length (intC (k ++ l)) ∧ Below B w w' ∧ w.grownBy w' v.ownBlock := by
  obtain ⟨i0, hi, hz0, hz1, hz2⟩ := info_parts rInfo
  obtain ⟨a, cap, rfl, hr, hc⟩ := hx
  cases a with
  | none =>
    obtain ⟨h0, rfl⟩ := hnt _ _ rfl
    have hl : l = [] := List.eq_nil_of_length_eq_zero h0
    subst hl
    refine ⟨v, w, run_append_owned_none (P := Tryz.prog) (w := w) B 22 ty 21 i0 1 Tryz.underlying22 hi v _ _ hown, by simpa using hown, Below.refl _ _, ⟨rfl, rfl, rfl, Nat.le_refl _, fun _ _ _ => rfl⟩⟩
  | some ad =>
    have hnews : ∀ j u, (intC l)[j]? = some u → w.cell? (ad.add j) = some u := by
      intro j u hj
      rcases hc with hc | ⟨b, off, ha, hlt, hc⟩
      · subst hc; simp [intC] at hj
      · obtain rfl := Option.some.inj ha
        rw [add_off]
        have hjl : j < l.length := by
          rcases Nat.lt_or_ge j l.length with h | h
          · exact h
          · rw [List.getElem?_eq_none (by simpa [intC] using h)] at hj; simp at hj
        rw [hc j hjl]
        simp [intC, List.getElem?_eq_getElem hjl] at hj
        rw [← hj]
    obtain ⟨v', w', hrun, h2, h3, h4⟩ := run_append_own (P := Tryz.prog) w B 22 ty 21 i0 (.int .i32 0) 1 4 Tryz.underlying22 hi hz0 hz1 hz2 rfl (by decide) v k.length (intC k) hown ad l.length cap (intC l) (by simp [intC]) hnews (by intro u hu; simp [intC] at hu; obtain ⟨n, _, rfl⟩ := hu; rfl) (by unfold maxLen; omega) (by omega) hB
    refine ⟨v', w', hrun, by simpa [intC] using h2, ?_, h3⟩
    refine ⟨h3.os, h3.tape, h3.output, h3.size, fun i hi' => h3.block i (by omega) ?_⟩
    rcases hown.2 with ⟨rfl, _⟩ | ⟨g, cap, cur, rfl, hg, _⟩
    · simp [Value.ownBlock]
    · simp [Value.ownBlock]; omega
/-- A row of the call's own stays where another one grows. -/
theorem own_apart {w w' : World} {B : Nat} {e : TypeId} {x v : Value} {n : Nat} {xs : List Value} (h : w.ownsRow B e 1 x n xs) (hg : w.grownBy w' v.ownBlock) (hv : ∀ k, v.ownBlock = some k → k < B) : w'.ownsRow B e 1 x n xs :=
  own_same h fun k hk => by
    have hb := own_block h hk
    refine hg.block k hb.2 ?_
    intro e
    have := hv k (by first | exact e | exact e.symm)
    omega

set_option maxHeartbeats 1000000 in
set_option maxRecDepth 100000 in
theorem refBoth_any (s : ByteArray) (w : World) (hs : s.size ≤ 1048576) :
    Calls Tryz.prog 36 #[.string s] w fun e w' => (∃ v, e = .returned (.tuple #[v, .int .i64 (wdN (pcW s.data.toList) : Nat)]) ∧ RowI w' v (ints (flP (pcW s.data.toList)))) ∧ Below w.heap.size w w' := by
  have hsl := sizeL s
  go_enter Tryz.func36, Tryz.ntmps36
  go_wp2
  go_loopw [0, 4, 5, 6, 7, 8, 9, 10] (fun xs xo xm xr xb y1 y2 y3 wr => ∃ (r run : ByteArray) (out : List Nat) (many f : Nat) (bw : Bool), xs = .string r ∧ xm = .int .i64 (many : Int) ∧ xr = .string run ∧ xb = .bool bw ∧ r.size + run.size ≤ s.size ∧ out.length ≤ s.size ∧ many ≤ s.size ∧
    Hid (BothJ s.data.toList f out many run.data.toList r.data.toList bw) ∧ Hid (wr.ownsRow w.heap.size 21 1 xo (ints out).length (intC (ints out))) ∧ Hid (∀ n ∈ out, isL (n : Int) = true) ∧ Hid (Below w.heap.size w wr)) (fun xs _ _ _ _ _ _ _ _ => match xs with | .string r => r.size | _ => 0)
  case atStart => exact ⟨s, ⟨#[]⟩, [], 0, s.data.toList.length + 1, false, rfl, rfl, rfl, rfl, Nat.le_refl _, Nat.zero_le _, Nat.zero_le _, hide (BothJ.start _), hide ⟨rfl, Or.inl ⟨rfl, rfl⟩⟩, hide (fun n hn => by simp at hn), hide (Below.refl _ _)⟩
  case round =>
    obtain ⟨r, run, out, many, f, bw, rfl, rfl, rfl, rfl, hz, hol, hml, HJ, HO, HI, HB⟩ := hrel
    have HRL := hide (fun W => refLetters_any run W (by omega))
    by_cases h0 : r.size = 0
    · have hem : r.toList.isEmpty = true := by rw [empty_size]; exact decide_eq_true h0
      have hj := unhide HJ
      rw [show r.data.toList = [] from List.eq_nil_of_length_eq_zero (by rw [sizeL]; exact h0)] at hj
      obtain ⟨hf1, hf2⟩ := hj.stop
      have HF1 := hide hf1
      have HF2 := hide hf2
      clear hj hf1 hf2 HJ
      go_wp2_with fail
      refine (unhide HRL _).mono ?_
      rintro e w1 ⟨v1, rfl, o1, b1⟩
      have hll := lettersL_len run.data.toList
      rw [sizeL] at hll
      have HLI := hide (lettersL_is run.data.toList)
      obtain ⟨z1, q1, hz1⟩ := (own_rowI o1 (unhide HLI)).len
      subst hz1
      obtain ⟨v2, u2, hr2, ho2, hb2, _, _⟩ := run_append_rowI w1 w.heap.size u4 _ (ints out) (ints (lettersL run.data.toList)) 22 (own_below (unhide HO) b1) (own_rowI o1 (unhide HLI)) (own_neat o1) (by rw [ints_len, ints_len]; omega) (by have := (unhide HB).size; have := b1.size; omega)
      have HROW := hide (own_rowC ho2 (by
        intro n hn
        rcases List.mem_append.1 hn with hn | hn
        · exact isL_range (unhide HI) n hn
        · exact isL_range (unhide HLI) n hn))
      rw [← ints_cat2, ← unhide HF1] at HROW
      have HB2 := hide ((belows' (unhide HB) b1).trans hb2)
      have hsl4 : ∃ z4 q4 p4, u4 = .slice z4 q4 p4 := by rcases (unhide HO).2 with ⟨h, _⟩ | ⟨g, cap, cur, h, _⟩ <;> exact ⟨_, _, _, h⟩
      clear o1 b1 ho2 hb2 HRL HO HI HB HLI
      generalize ints (lettersL run.data.toList) = LR at *
      obtain ⟨z4, q4, p4, rfl⟩ := hsl4
      go_wp2_with (at_builtin; refine wpList_append_run (by rfl) _ _ 22 rfl rfl rfl rfl hr2 ?_)
      go_ret2
      exact ⟨⟨v2, by rw [unhide HF2]; rfl, unhide HROW⟩, unhide HB2⟩
    · have hem : r.toList.isEmpty = false := by rw [empty_size]; exact decide_eq_false h0
      have hp : 0 < r.size := by omega
      have hd := drop_byte r 0 hp
      rw [List.drop_zero, Nat.zero_add] at hd
      have HON := hide (refOneW_any r wr (by omega))
      have hsl4 : ∃ z4 q4 p4, u4 = .slice z4 q4 p4 := by rcases (unhide HO).2 with ⟨h, _⟩ | ⟨g, cap, cur, h, _⟩ <;> exact ⟨_, _, _, h⟩
      obtain ⟨z4, q4, p4, rfl⟩ := hsl4
      have HD := hide hd
      clear hd
      go_wp2_with fail
      refine (unhide HON).mono ?_
      rintro e w1 ⟨⟨hno, rfl⟩ | ⟨p, v1, hyes, rfl, o1⟩, b1⟩
      · have hj := unhide HJ
        rw [unhide HD] at hj
        have hj2 := hj.miss (out := []) (by rw [← unhide HD]; exact one_miss hno)
        have e1 : (run ++ r.extract 0 1).data.toList = run.data.toList ++ [r[0]] := by
          rw [ByteArray.data_append, Array.toList_append, upto_bts, toList_bts, unhide HD]
          rfl
        have e2 : (r.extract 1 r.size).data.toList = r.data.toList.drop 1 := toList_from r 1
        have hz1 : (r.extract 0 1).size = 1 := by rw [upto_bts, size_bts, List.length_take, sizeL]; omega
        have hz2 : (run ++ r.extract 0 1).size = run.size + 1 := by rw [ByteArray.size_append, hz1]
        have hz3 : (r.extract 1 r.size).size = r.size - 1 := by rw [← sizeL, e2, List.length_drop, sizeL]
        have HJ2 : Hid (BothJ s.data.toList f out many (run ++ r.extract 0 1).data.toList (r.extract 1 r.size).data.toList bw) := hide (by rw [e1, e2]; exact hj2)
        have HO2 := hide (own_below (unhide HO) b1)
        have HB2 := hide (belows' (unhide HB) b1)
        clear hj hj2 e1 e2 HJ HO HB b1 hno HON HD HRL
        go_wp2
        exact ⟨⟨r.extract 1 r.size, run ++ r.extract 0 1, out, many, f, bw, rfl, rfl, rfl, rfl, by omega, hol, hml, HJ2, HO2, HI, HB2⟩, by show (r.extract 1 r.size).size < r.size; omega⟩
      · obtain ⟨hn, rfl⟩ := one_hit hyes
        have hj := (unhide HJ).hit hn
        have hdl : (bts (r.data.toList.drop (rdN (rdW r.data.toList)))).data.toList = r.data.toList.drop (rdN (rdW r.data.toList)) := toList_bts _
        have hdz : (bts (r.data.toList.drop (rdN (rdW r.data.toList)))).size < r.size := by rw [size_bts, List.length_drop, sizeL]; omega
        have hjo := hj.out_le
        rw [hsl] at hjo
        rw [← hdl] at hj
        have HLI1 := hide (rdL_is r.data.toList)
        simp only at o1
        generalize bts (r.data.toList.drop (rdN (rdW r.data.toList))) = nx at hj hdz ⊢
        generalize rdL (rdW r.data.toList) = L1 at hj hjo o1 HLI1
        have HJ2 := hide hj
        clear hj hdl HJ hyes hn HON
        have HO1 := hide o1
        have HVB : Hid (∀ k, (Value.slice z4 q4 p4).ownBlock = some k → k < wr.heap.size) := hide (fun k hk => (own_block (unhide HO) hk).2)
        obtain ⟨z1, q1, hz1⟩ := (own_rowI o1 (unhide HLI1)).len
        subst hz1
        have HOa := hide (own_below (unhide HO) b1)
        have HBa := hide (belows' (unhide HB) b1)
        have hw1 : wr.heap.size ≤ w1.heap.size := b1.size
        have hwr : w.heap.size ≤ wr.heap.size := (unhide HB).size
        clear o1 b1 HO HB HD
        have hll := lettersL_len run.data.toList
        rw [sizeL] at hll
        have HLI := hide (lettersL_is run.data.toList)
        cases bw with
        | false =>
          rw [if_neg (by simp)] at HJ2 hjo
          rw [List.length_append, List.length_append] at hjo
          have hjo1 := hjo.1
          rw [← List.length_append, ← List.length_append] at hjo
          go_wp2_with fail
          refine (unhide HRL _).mono ?_
          rintro e w3 ⟨v3, rfl, o3, b3⟩
          obtain ⟨z3, q3, hz3⟩ := (own_rowI o3 (unhide HLI)).len
          subst hz3
          have hw3 : w1.heap.size ≤ w3.heap.size := b3.size
          obtain ⟨v5, u5, hr5, ho5, hb5, hg5⟩ := run_append_rowG w3 w.heap.size _ _ (ints out) (ints (lettersL run.data.toList)) 22 (own_below (unhide HOa) b3) (own_rowI o3 (unhide HLI)) (own_neat o3) (by rw [ints_len, ints_len]; omega) (by omega)
          have hB5 : Below w.heap.size w u5 := (belows' (unhide HBa) b3).trans hb5
          have hx5 := own_apart (own_below (unhide HO1) b3) hg5 (unhide HVB)
          obtain ⟨v6, u6, hr6, ho6, hb6, hg6⟩ := run_append_rowG u5 w.heap.size v5 _ (ints out ++ ints (lettersL run.data.toList)) (ints L1) 22 ho5 (own_rowI hx5 (unhide HLI1)) (own_neat hx5) (by rw [List.length_append, ints_len, ints_len, ints_len]; omega) hB5.size
          have HB6 := hide (hB5.trans hb6)
          rw [← ints_cat2, ← ints_cat2] at ho6
          have HO6 := hide ho6
          have HI6 : Hid (∀ n ∈ out ++ lettersL run.data.toList ++ L1, isL (n : Int) = true) := hide (fun n hn => by
            rcases List.mem_append.1 hn with hn | hn
            · rcases List.mem_append.1 hn with hn | hn
              · exact unhide HI n hn
              · exact unhide HLI n hn
            · exact unhide HLI1 n hn)
          have hol6 : (out ++ lettersL run.data.toList ++ L1).length ≤ s.size := hjo.1
          clear o3 b3 ho5 hb5 hg5 hx5 ho6 hb6 hg6 hB5 HRL HO1 HOa HBa HVB
          generalize out ++ lettersL run.data.toList ++ L1 = OUT at *
          generalize ints (lettersL run.data.toList) = LR at *
          generalize ints L1 = LL at *
          go_wp2_with (at_builtin; first | refine wpList_append_run (by rfl) _ _ 22 rfl rfl rfl rfl hr5 ?_ | refine wpList_append_run (by rfl) _ _ 22 rfl rfl rfl rfl hr6 ?_)
          exact ⟨⟨nx, ⟨#[]⟩, OUT, many + 1, f, true, rfl, by go_num, rfl, rfl, by show nx.size + 0 ≤ s.size; omega, hol6, hjo.2, HJ2, HO6, HI6, HB6⟩, by show nx.size < r.size; omega⟩
        | true =>
          obtain hbk := refBlankW_any run
          have HBK := hide (fun W => refBlankW_any run W (by omega))
          clear hbk
          by_cases hbl : blL run.data.toList = true
          · rw [if_pos ⟨rfl, hbl⟩] at HJ2 hjo
            rw [List.length_append] at hjo
            have hjo1 := hjo.1
            rw [← List.length_append] at hjo
            have hsk : skB run.data.toList = [] := skB_nil.2 hbl
            rw [hsk] at HBK
            clear hbl hsk
            go_wp2_with fail
            refine (unhide HBK _).mono ?_
            rintro e w2 ⟨⟨rb, rfl, hrb⟩, hw2⟩
            rw [hw2]
            clear hw2
            have hre : rb.toList.isEmpty = true := by rw [empty_size]; exact decide_eq_true (by rw [← sizeL, hrb]; rfl)
            obtain ⟨v6, u6, hr6, ho6, hb6, hg6⟩ := run_append_rowG _ w.heap.size _ _ (ints out) (ints L1) 22 (unhide HOa) (own_rowI (unhide HO1) (unhide HLI1)) (own_neat (unhide HO1)) (by rw [ints_len, ints_len]; omega) (by omega)
            have HB6 := hide ((unhide HBa).trans hb6)
            rw [← ints_cat2] at ho6
            have HO6 := hide ho6
            have HI6 : Hid (∀ n ∈ out ++ L1, isL (n : Int) = true) := hide (fun n hn => by
              rcases List.mem_append.1 hn with hn | hn
              · exact unhide HI n hn
              · exact unhide HLI1 n hn)
            have hol6 : (out ++ L1).length ≤ s.size := hjo.1
            clear ho6 hb6 hg6 HRL HO1 HOa HBa HVB hrb HBK
            generalize out ++ L1 = OUT at *
            generalize ints L1 = LL at *
            go_wp2_with (at_builtin; refine wpList_append_run (by rfl) _ _ 22 rfl rfl rfl rfl hr6 ?_)
            exact ⟨⟨nx, ⟨#[]⟩, OUT, many + 1, f, true, rfl, by go_num, rfl, rfl, by show nx.size + 0 ≤ s.size; omega, hol6, hjo.2, HJ2, HO6, HI6, HB6⟩, by show nx.size < r.size; omega⟩
          · rw [if_neg (fun h => hbl h.2)] at HJ2 hjo
            rw [List.length_append, List.length_append] at hjo
            have hjo1 := hjo.1
            rw [← List.length_append, ← List.length_append] at hjo
            have hsk : skB run.data.toList ≠ [] := fun e => hbl (skB_nil.1 e)
            go_wp2_with fail
            refine (unhide HBK _).mono ?_
            rintro e w2 ⟨⟨rb, rfl, hrb⟩, hw2⟩
            rw [hw2]
            clear hw2
            have hre : rb.toList.isEmpty = false := by
              rw [empty_size]
              refine decide_eq_false fun e => hsk ?_
              rw [← hrb]
              exact List.eq_nil_of_length_eq_zero (by rw [sizeL]; exact e)
            clear hbl hsk hrb HBK
            go_wp2_with fail
            refine (unhide HRL _).mono ?_
            rintro e w3 ⟨v3, rfl, o3, b3⟩
            obtain ⟨z3, q3, hz3⟩ := (own_rowI o3 (unhide HLI)).len
            subst hz3
            have hw3 : w1.heap.size ≤ w3.heap.size := b3.size
            obtain ⟨v5, u5, hr5, ho5, hb5, hg5⟩ := run_append_rowG w3 w.heap.size _ _ (ints out) (ints (lettersL run.data.toList)) 22 (own_below (unhide HOa) b3) (own_rowI o3 (unhide HLI)) (own_neat o3) (by rw [ints_len, ints_len]; omega) (by omega)
            have hB5 : Below w.heap.size w u5 := (belows' (unhide HBa) b3).trans hb5
            have hx5 := own_apart (own_below (unhide HO1) b3) hg5 (unhide HVB)
            obtain ⟨v6, u6, hr6, ho6, hb6, hg6⟩ := run_append_rowG u5 w.heap.size v5 _ (ints out ++ ints (lettersL run.data.toList)) (ints L1) 22 ho5 (own_rowI hx5 (unhide HLI1)) (own_neat hx5) (by rw [List.length_append, ints_len, ints_len, ints_len]; omega) hB5.size
            have HB6 := hide (hB5.trans hb6)
            rw [← ints_cat2, ← ints_cat2] at ho6
            have HO6 := hide ho6
            have HI6 : Hid (∀ n ∈ out ++ lettersL run.data.toList ++ L1, isL (n : Int) = true) := hide (fun n hn => by
              rcases List.mem_append.1 hn with hn | hn
              · rcases List.mem_append.1 hn with hn | hn
                · exact unhide HI n hn
                · exact unhide HLI n hn
              · exact unhide HLI1 n hn)
            have hol6 : (out ++ lettersL run.data.toList ++ L1).length ≤ s.size := hjo.1
            clear o3 b3 ho5 hb5 hg5 hx5 ho6 hb6 hg6 hB5 HRL HO1 HOa HBa HVB
            generalize out ++ lettersL run.data.toList ++ L1 = OUT at *
            generalize ints (lettersL run.data.toList) = LR at *
            generalize ints L1 = LL at *
            go_wp2_with (at_builtin; first | refine wpList_append_run (by rfl) _ _ 22 rfl rfl rfl rfl hr5 ?_ | refine wpList_append_run (by rfl) _ _ 22 rfl rfl rfl rfl hr6 ?_)
            exact ⟨⟨nx, ⟨#[]⟩, OUT, many + 1, f, true, rfl, by go_num, rfl, rfl, by show nx.size + 0 ≤ s.size; omega, hol6, hjo.2, HJ2, HO6, HI6, HB6⟩, by show nx.size < r.size; omega⟩
end Go.Proofs.YtdallfakfhajdaaGreatDoor

/-
  What missivelaw09.lives does, over this seat's program: it answers true.
-/
set_option linter.unusedVariables false
namespace Go.Proofs.YtdallfakfhajdaaGreatDoor
open Go.RowKit Go.Proofs.Enc Go.Proofs.Rns

set_option maxHeartbeats 4000000 in
set_option maxRecDepth 100000 in
theorem livesW_any (w : World) (ht : TabW w) : Calls Tryz.prog 11 #[] w fun e w' => e = .returned (.bool true) ∧ Below w.heap.size w w' := by
  have H0 := hide ht
  clear ht
  have hR : lvR.size = 24 := by decide
  have hS : (⟨#[61, 63, 117, 116, 102, 45, 56, 63, 113, 63, 97, 95, 98, 63, 61, 32, 32, 61, 63, 108, 97, 116, 105, 110, 49, 42, 101, 110, 63, 66, 63, 54, 81, 61, 61, 63, 61, 32, 120]⟩ : ByteArray).size = 39 := by decide
  go_enter Tryz.func11, Tryz.ntmps11
  go_wp2_with fail
  refine (lv_dec _ (unhide H0)).mono ?_
  rintro e w1 ⟨v, rfl, hv, b1⟩
  have HV := hide hv
  have H1 := hide ((unhide H0).below b1)
  clear hv
  go_wp2_with fail
  refine (lv_one _ (unhide H1)).mono ?_
  rintro e w2 ⟨u, rfl, hu, b2⟩
  have HU := hide hu
  have H2 := hide ((unhide H1).below b2)
  clear hu
  go_wp2_with fail
  refine (lv_enc _ ((unhide H2).below ((Below.refl _ w2).alloc (Nat.le_refl _) _)) _ (lit_rowI w2 [97, 32, 233] _ rfl (by decide) 3 rfl)).mono ?_
  rintro e w3 ⟨rfl, b3'⟩
  have b3 := alloc_below _ b3'
  have H3 := hide ((unhide H2).below b3)
  clear b3'
  go_wp2_with fail
  refine (lv_enc1 _ ((unhide H3).below ((Below.refl _ w3).alloc (Nat.le_refl _) _)) _ (lit_rowI w3 [97] _ rfl (by decide) 1 rfl)).mono ?_
  rintro e w4 ⟨rfl, b4'⟩
  have b4 := alloc_below _ b4'
  have H4 := hide ((unhide H3).below b4)
  clear b4'
  go_wp2_with fail
  refine (lv_koi _ (unhide H4)).mono ?_
  rintro e w5 ⟨x1, x2, rfl, b5⟩
  have H5 := hide ((unhide H4).below b5)
  have HV5 := hide (((((unhide HV).below b2).below b3).below b4).below b5)
  have HU5 := hide ((((unhide HU).below b3).below b4).below b5)
  clear HV HU
  go_wp2_with fail
  refine (same_any _ _ [97, 32, 98, 233, 32, 120] [97, 32, 98, 233, 32, 120] _ ((unhide HV5).below ((Below.refl _ w5).alloc (Nat.le_refl _) _)) (lit_rowI w5 [97, 32, 98, 233, 32, 120] _ rfl (by decide) 6 rfl) (by decide)).mono ?_
  rintro e w6 ⟨rfl, b6'⟩
  have b6 := alloc_below _ b6'
  have H6 := hide ((unhide H5).below b6)
  have HU6 := hide ((unhide HU5).below b6)
  clear b6' HU5 HV5
  rw [show decide (([97, 32, 98, 233, 32, 120] : List Int) = [97, 32, 98, 233, 32, 120]) = true from rfl]
  go_wp2_with fail
  refine (lv_words _ (unhide H6)).mono ?_
  rintro e w7 ⟨rfl, b7⟩
  have HU7 := hide ((unhide HU6).below b7)
  clear HU6
  go_wp2_with fail
  refine (same_any _ _ [97, 32, 98] [97, 32, 98] _ ((unhide HU7).below ((Below.refl _ w7).alloc (Nat.le_refl _) _)) (lit_rowI w7 [97, 32, 98] _ rfl (by decide) 3 rfl) (by decide)).mono ?_
  rintro e w8 ⟨rfl, b8'⟩
  have b8 := alloc_below _ b8'
  clear b8'
  rw [show decide (([97, 32, 98] : List Int) = [97, 32, 98]) = true from rfl]
  go_wp2
  go_ret
  exact ⟨rfl, belows' (belows' (belows' (belows' (belows' (belows' (belows' b1 b2) b3) b4) b5) b6) b7) b8⟩
end Go.Proofs.YtdallfakfhajdaaGreatDoor

/-
  What missiveref09.Decode and Words, and missivelaw09.WordReads do, over this seat's program: the last one answers true.
-/
set_option linter.unusedVariables false
namespace Go.Proofs.YtdallfakfhajdaaGreatDoor
open Go.RowKit Go.Proofs.Enc Go.Proofs.Rns

set_option maxHeartbeats 1000000 in
set_option maxRecDepth 100000 in
theorem refDecodeW_any (s : ByteArray) (w : World) (hs : s.size ≤ 1048576) :
    Calls Tryz.prog 14 #[.string s] w fun e w' => (∃ v, e = .returned v ∧ RowI w' v (ints (flP (pcW s.data.toList)))) ∧ Below w.heap.size w w' := by
  have HB := hide (refBoth_any s w hs)
  generalize wdN (pcW s.data.toList) = n at HB
  go_enter Tryz.func14, Tryz.ntmps14
  go_wp2_with fail
  refine (unhide HB).mono ?_
  rintro e w1 ⟨⟨v, rfl, hv⟩, b1⟩
  have HV := hide hv
  clear hv HB
  go_wp2
  go_ret
  exact ⟨⟨v, rfl, unhide HV⟩, b1⟩
set_option maxHeartbeats 1000000 in
set_option maxRecDepth 100000 in
theorem refWordsW_any (s : ByteArray) (w : World) (hs : s.size ≤ 1048576) :
    Calls Tryz.prog 16 #[.string s] w fun e w' => e = .returned (.int .i64 (wdN (pcW s.data.toList) : Nat)) ∧ Below w.heap.size w w' := by
  have HB := hide (refBoth_any s w hs)
  generalize wdN (pcW s.data.toList) = n at HB
  go_enter Tryz.func16, Tryz.ntmps16
  go_wp2_with fail
  refine (unhide HB).mono ?_
  rintro e w1 ⟨⟨v, rfl, hv⟩, b1⟩
  clear hv HB
  go_wp2
  go_ret
  exact ⟨rfl, b1⟩

def oneW2 (l : List UInt8) : Nat × List UInt8 × List Nat := match oneD l with
  | none => (7, [], [])
  | some p => (0, p.2, p.1)
theorem oneW_same (l : List UInt8) : oneW l = ((oneW2 l).2.2, (oneW2 l).2.1, (oneW2 l).1) := by
  unfold oneW oneW2
  rw [one_same]
  unfold oneR'
  by_cases h : rdN (rdW l) = 0
  · rw [if_pos h, if_pos h]
  · rw [if_neg h, if_neg h]
theorem oneW2_is (l : List UInt8) : ∀ n ∈ (oneW2 l).2.2, isL (n : Int) = true := by
  unfold oneW2
  cases h : oneD l with
  | none => simp
  | some p =>
    obtain ⟨_, rfl⟩ := one_hit h
    exact rdL_is l
theorem fdW_is : ∀ (l : List UInt8) (k : Nat), ∀ n ∈ (fdW l k).2.1, isL (n : Int) = true
  | [], k, n, h => by simp [fdW] at h
  | a :: r, k, n, h => by
    unfold fdW at h
    split at h
    · exact rdL_is (a :: r) n h
    · exact fdW_is r (k + 1) n h
theorem pcF_is : ∀ (f : Nat) (bw : Bool) (l : List UInt8), ∀ n ∈ flP (pcF f bw l), isL (n : Int) = true
  | 0, bw, l, n, h => by simp [pcF, flP] at h
  | f + 1, bw, l, n, h => by
    unfold pcF at h
    split at h
    · simp [flP] at h
    · rw [flP_append, flP_append, List.mem_append, List.mem_append] at h
      rcases h with (h | h) | h
      · split at h
        · simp only [flP, List.flatMap_cons, List.flatMap_nil, List.append_nil] at h
          exact lettersL_is _ n h
        · simp [flP] at h
      · split at h
        · simp only [flP, List.flatMap_cons, List.flatMap_nil, List.append_nil] at h
          exact fdW_is l 0 n h
        · simp [flP] at h
      · exact pcF_is f true _ n h
/-- One, the document's, as a row. -/
theorem refOneR_any (s : ByteArray) (w : World) (hs : s.size ≤ 4000000) :
    Calls Tryz.prog 10 #[.string s] w fun e w' => (∃ v, e = .returned (.tuple #[v, .string (bts (oneW2 s.data.toList).2.1), .int .i64 ((oneW2 s.data.toList).1 : Nat)]) ∧ RowI w' v (ints (oneW2 s.data.toList).2.2)) ∧ Below w.heap.size w w' := by
  refine (refOneW_any s w hs).mono ?_
  rintro e w' ⟨⟨hno, rfl⟩ | ⟨p, v, hy, rfl, ho⟩, hb⟩
  · refine ⟨⟨.slice none 0 0, ?_, ?_⟩, hb⟩
    · unfold oneW2; rw [hno]; rfl
    · unfold oneW2; rw [hno]; exact ⟨none, 0, rfl, by simp [ints], .inl rfl⟩
  · have hi := oneW2_is s.data.toList
    have he : oneW2 s.data.toList = (0, p.2, p.1) := by unfold oneW2; rw [hy]
    rw [he] at hi ⊢
    exact ⟨⟨v, rfl, own_rowI ho hi⟩, hb⟩

set_option maxHeartbeats 2000000 in
set_option maxRecDepth 100000 in
theorem wordReads_walk (s : ByteArray) (w : World) (ht : TabW w) (hs : s.size ≤ 1048576) :
    Calls Tryz.prog 3 #[.string s] w fun e w' => e = .returned (.bool true) ∧ Below w.heap.size w w' := by
  have HT := hide ht
  have H1 := hide (fun W (h : TabW W) => one_word s W h.tab h.err (by omega))
  have H2 := hide (fun W => refOneR_any s W (by omega))
  have HL := hide livesW_any
  have H3 := hide (fun W (h : TabW W) => decode_word s W h.tab h.err h.max (by omega))
  have H4 := hide (fun W => refDecodeW_any s W hs)
  have H5 := hide (fun W (h : TabW W) => words_word s W h.tab h.err h.max (by omega))
  have H6 := hide (fun W => refWordsW_any s W hs)
  rw [oneW_same] at H1
  simp only at H1
  have HI1 := hide (oneW2_is s.data.toList)
  have HI3 : Hid (∀ n ∈ flP (pcW s.data.toList), isL (n : Int) = true) := hide (pcF_is _ _ _)
  have hfl : (pcW s.data.toList).flatMap (·.1) = flP (pcW s.data.toList) := rfl
  rw [hfl] at H3
  have hle : (ints (flP (pcW s.data.toList))).length ≤ 9223372036854775807 := by
    have := pcW_few s.data.toList
    rw [ints_len]
    unfold flP
    rw [sizeL] at this
    omega
  have hlo : (ints (oneW2 s.data.toList).2.2).length ≤ 9223372036854775807 := by
    have h1 := oneW_same s.data.toList
    have h2 : (oneW s.data.toList).1 = (oneW2 s.data.toList).2.2 := congrArg Prod.fst h1
    have h3 := rdL_le decR_few s.data.toList
    have h4 := rdN_le s.data.toList
    rw [sizeL] at h4
    rw [ints_len, ← h2]
    unfold oneW
    split
    · simp
    · simp only; omega
  generalize flP (pcW s.data.toList) = FL at H3 H4 HI3 hle
  generalize wdN (pcW s.data.toList) = WN at H5 H6
  generalize (oneW2 s.data.toList).2.2 = OL at H1 H2 HI1 hlo
  generalize bts (oneW2 s.data.toList).2.1 = OT at H1 H2
  generalize (oneW2 s.data.toList).1 = ON at H1 H2
  have hbb : (OT.toList == OT.toList) = true := by simp
  clear ht hfl
  go_enter Tryz.func3, Tryz.ntmps3
  go_wp2_with fail
  refine (unhide H1 _ (unhide HT)).mono ?_
  rintro e w1 ⟨v1, rfl, o1, b1⟩
  have HV1 := hide (own_rowI o1 (unhide HI1))
  have HT1 := hide ((unhide HT).below b1)
  have HB1 := hide b1
  clear o1 b1 H1
  go_wp2_with fail
  refine (unhide H2 _).mono ?_
  rintro e w2 ⟨⟨v2, rfl, o2⟩, b2⟩
  have HV2 := hide o2
  have HV1b := hide ((unhide HV1).below b2)
  have HT2 := hide ((unhide HT1).below b2)
  have HB2 := hide (belows' (unhide HB1) b2)
  clear o2 b2 H2 HV1
  go_wp2_with fail
  refine (unhide HL _ (unhide HT2)).mono ?_
  rintro e w3 ⟨rfl, b3⟩
  have HV2c := hide ((unhide HV2).below b3)
  have HV1c := hide ((unhide HV1b).below b3)
  have HT3 := hide ((unhide HT2).below b3)
  have HB3 := hide (belows' (unhide HB2) b3)
  clear b3 HV2 HV1b
  go_wp2_with fail
  refine (unhide H3 _ (unhide HT3)).mono ?_
  rintro e w4 ⟨v4, rfl, o4, b4⟩
  have HV4 := hide (own_rowI o4 (unhide HI3))
  have HV2d := hide ((unhide HV2c).below b4)
  have HV1d := hide ((unhide HV1c).below b4)
  have HT4 := hide ((unhide HT3).below b4)
  have HB4 := hide (belows' (unhide HB3) b4)
  clear o4 b4 H3 HV2c HV1c
  go_wp2_with fail
  refine (unhide H4 _).mono ?_
  rintro e w5 ⟨⟨v5, rfl, o5⟩, b5⟩
  have HV5 := hide o5
  have HV4e := hide ((unhide HV4).below b5)
  have HV2e := hide ((unhide HV2d).below b5)
  have HV1e := hide ((unhide HV1d).below b5)
  have HT5 := hide ((unhide HT4).below b5)
  have HB5 := hide (belows' (unhide HB4) b5)
  clear o5 b5 H4 HV4 HV2d HV1d
  have HS1 := hide (same_any _ _ _ _ w5 (unhide HV4e) (unhide HV5) hle)
  rw [decide_eq_true rfl] at HS1
  go_wp2_with fail
  refine (unhide HS1).mono ?_
  rintro e w6 ⟨rfl, b6⟩
  have HV2f := hide ((unhide HV2e).below b6)
  have HV1f := hide ((unhide HV1e).below b6)
  have HT6 := hide ((unhide HT5).below b6)
  have HB6 := hide (belows' (unhide HB5) b6)
  clear b6 HS1 HV2e HV1e HV4e HV5
  go_wp2_with fail
  refine (unhide H5 _ (unhide HT6)).mono ?_
  rintro e w7 ⟨rfl, b7⟩
  have HV2g := hide ((unhide HV2f).below b7)
  have HV1g := hide ((unhide HV1f).below b7)
  have HB7 := hide (belows' (unhide HB6) b7)
  clear b7 H5 HV2f HV1f
  go_wp2_with fail
  refine (unhide H6 _).mono ?_
  rintro e w8 ⟨rfl, b8⟩
  have HV2h := hide ((unhide HV2g).below b8)
  have HV1h := hide ((unhide HV1g).below b8)
  have HB8 := hide (belows' (unhide HB7) b8)
  clear b8 H6 HV2g HV1g
  have HS2 := hide (same_any _ _ _ _ w8 (unhide HV1h) (unhide HV2h) hlo)
  rw [decide_eq_true rfl] at HS2
  have hww : ((WN : Int) == (WN : Int)) = true := by simp
  go_wp2_with fail
  refine (unhide HS2).mono ?_
  rintro e w9 ⟨rfl, b9⟩
  have HB9 := hide (belows' (unhide HB8) b9)
  clear b9 HS2
  have hoo : ((ON : Int) == (ON : Int)) = true := by simp
  go_wp2
  go_ret
  exact ⟨by first | rfl | simp, unhide HB9⟩
end Go.Proofs.YtdallfakfhajdaaGreatDoor
