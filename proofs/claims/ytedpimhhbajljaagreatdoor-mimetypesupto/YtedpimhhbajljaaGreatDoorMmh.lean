/-
  What mime.between does, over this seat's program.
-/
import Derived.Test.YtedpimhhbajljaaGreatDoorMmg
set_option linter.unusedVariables false
set_option linter.unusedSimpArgs false
namespace Go.Proofs.YtedpimhhbajljaaGreatDoor
open Go.RowKit Go.Proofs.Hed

def begZ : Option Nat → Int
  | none => -1
  | some b => (b : Int)
/-- The pieces of a body between lines of a mark, by their ends; beg: where the part begins that is open. -/
def btF (body mark : List UInt8) : Nat → Option Nat → Nat → Nat → List (Nat × Nat) → List (Nat × Nat)
  | 0, _, _, _, acc => acc
  | f + 1, beg, a, en, acc =>
    if a < body.length ∧ acc.length < 256 then
      match beg with
      | none => btF body mark f (if mkB (lineOf (body.drop a)) mark = true then some (a + lineN (body.drop a)) else none) (a + lineN (body.drop a)) (a + (lineOf (body.drop a)).length) acc
      | some b =>
        if mkC (lineOf (body.drop a)) mark = true then acc ++ [(b, max b en)]
        else if mkB (lineOf (body.drop a)) mark = true then btF body mark f (some (a + lineN (body.drop a))) (a + lineN (body.drop a)) (a + (lineOf (body.drop a)).length) (acc ++ [(b, max b en)])
        else btF body mark f (some b) (a + lineN (body.drop a)) (a + (lineOf (body.drop a)).length) acc
    else match beg with
      | none => acc
      | some b => acc ++ [(b, body.length)]
def betw (body mark : List UInt8) : List (Nat × Nat) := btF body mark (body.length + 1) none 0 0 []
theorem line_lens (l : List UInt8) (h : 0 < l.length) : (lineOf l).length ≤ lineN l ∧ lineN l ≤ l.length ∧ 1 ≤ lineN l := by
  unfold lineOf lineN
  cases hl : lfAt l with
  | none => exact ⟨Nat.le_refl _, Nat.le_refl _, h⟩
  | some i =>
    have hi := lfAt_lt hl
    simp only
    have : (noCr (l.take i)).length ≤ i := by
      unfold noCr
      split
      · rw [List.length_dropLast, List.length_take]; omega
      · rw [List.length_take]; omega
    omega
theorem strInfoM : (Tryz.prog.info? 9).map (fun i => (i.zero, i.size, i.bytes)) = some (some (.string ByteArray.empty), 1, 16) := by kernel_rfl
def cutV (body : ByteArray) (p : Nat × Nat) : Value := .string (body.extract p.1 p.2)

set_option maxHeartbeats 8000000 in
set_option maxRecDepth 100000 in
theorem between_any (body mark : ByteArray) (w : World) (hs : body.size ≤ 16777216) :
    Calls Tryz.prog 96 #[.string body, .string mark] w fun e w' => ∃ v, e = .returned v ∧ w'.ownsRow w.heap.size 9 1 v (betw body.data.toList mark.data.toList).length ((betw body.data.toList mark.data.toList).map (cutV body)) ∧ (betw body.data.toList mark.data.toList).length ≤ 257 ∧ Below w.heap.size w w' := by
  obtain ⟨i0, hi, hz0, hz1, hz2⟩ := info_parts strInfoM
  have hsl := sizeL body
  obtain ⟨R, hR⟩ : ∃ R, betw body.data.toList mark.data.toList = R := ⟨_, rfl⟩
  have HR0 := hide hR
  rw [hR]
  clear hR
  have HFL := hide (fun (a : Nat) (ha : a ≤ body.size) W => firstLineM_any (body.extract a body.size) W (by rw [size_part _ a body.size (by omega)]; omega))
  simp only [toList_from] at HFL
  go_enter Tryz.func96, Tryz.ntmps96
  go_wp2
  go_loopw [5, 6, 7, 8, 9, 10, 11, 12] (fun x y z u c1 c2 c3 c4 wr => ∃ (f n a en : Nat) (beg : Option Nat) (acc : List (Nat × Nat)), y = .int .i64 (begZ beg) ∧ z = .int .i64 (a : Int) ∧ u = .int .i64 (en : Int) ∧ a ≤ body.size ∧ en ≤ body.size ∧ Hid (∀ b, beg = some b → b ≤ body.size) ∧ n ≤ 256 ∧ body.size - a < f ∧ Hid (acc.length = n) ∧ Hid (btF body.data.toList mark.data.toList f beg a en acc = R) ∧ wr.ownsRow w.heap.size 9 1 x n (acc.map (cutV body)) ∧ Hid (Below w.heap.size w wr)) (fun _ _ z _ _ _ _ _ _ => body.size - (intOf z).toNat)
  case atStart => exact ⟨body.size + 1, 0, 0, 0, none, [], rfl, rfl, rfl, by omega, by omega, hide (fun b h => by cases h), by omega, by omega, hide rfl, hide (by rw [← hsl]; exact unhide HR0), ⟨by simp, Or.inl ⟨rfl, rfl⟩⟩, hide (Below.refl _ _)⟩
  case round =>
    obtain ⟨f, n, a, en, beg, acc, rfl, rfl, rfl, hab, heb, HBB, hn, hfu, HN, HE, hown, HB⟩ := hrel
    have hbs := (unhide HB).size
    obtain ⟨f, rfl⟩ : ∃ g, f = g + 1 := ⟨f - 1, by omega⟩
    have he := unhide HE
    unfold btF at he
    rw [hsl, unhide HN] at he
    by_cases ha : a < body.size
    · have ha1 : (a : Int) < (body.size : Int) := by omega
      by_cases hn2 : n < 256
      · have hn3 : (n : Int) < 256 := by omega
        have hn4 : decide ((n : Int) < 256) = true := decide_eq_true hn3
        have hn5 : decide (n < 256) = true := decide_eq_true hn2
        rw [if_pos ⟨ha, hn2⟩] at he
        have hdl : 0 < (body.data.toList.drop a).length := by rw [List.length_drop, hsl]; omega
        obtain ⟨l1, l2, l3⟩ := line_lens _ hdl
        rw [List.length_drop, hsl] at l2
        have HL := hide (unhide HFL a (by omega))
        generalize lineN (body.data.toList.drop a) = k at he l1 l2 l3 HL
        generalize lineOf (body.data.toList.drop a) = li at he l1 HL
        have hzl : (bts li).size = li.length := size_bts _
        have HM := hide (fun W => isMark_any (bts li) mark W (by omega))
        rw [toList_bts] at HM
        have hone := mk_one (line := li) (mark := mark.data.toList)
        generalize mkB li mark.data.toList = mb at he HM hone
        generalize mkC li mark.data.toList = mc at he HM hone
        have HSL := fun W => slice_from body (a : Int) a rfl (by omega) W
        generalize body.extract a body.size = z at HL HSL
        generalize li.length = ll at l1 hzl he
        generalize bts li = lb at HL HM hzl
        have hak : a + k ≤ body.size := by omega
        clear hdl HE
        obtain ⟨ay, cy, hvy⟩ := own_formH hown
        subst hvy
        cases beg with
        | none =>
          have z1 : begZ none = -1 := rfl
          rw [z1]
          cases mb with
          | true =>
            simp only [if_true] at he
            have HE2 := hide he
            clear he HBB hone
            go_wp2_with fail
            refine (unhide HL _).mono ?_
            rintro e wl ⟨rfl, hl⟩
            subst hl
            clear HL
            go_wp2_with fail
            refine (unhide HM _).mono ?_
            rintro e w2 ⟨rfl, b2⟩
            have hown2 := own_below hown b2
            have HB2 := hide (belows' (unhide HB) b2)
            have hbs2 := (unhide HB2).size
            clear b2 HM hown HB
            go_wp2
            exact ⟨⟨f, n, a + k, a + ll, some (a + k), acc, by first | rfl | go_num, by go_num, by first | go_num | (rw [hzl]; go_num), by omega, by omega, hide (fun b h => by injection h with h; omega), by omega, by omega, HN, HE2, hown2, HB2⟩, by simp [intOf]; omega⟩
          | false =>
            simp only [Bool.false_eq_true, if_false] at he
            have HE2 := hide he
            clear he HBB hone
            go_wp2_with fail
            refine (unhide HL _).mono ?_
            rintro e wl ⟨rfl, hl⟩
            subst hl
            clear HL
            go_wp2_with fail
            refine (unhide HM _).mono ?_
            rintro e w2 ⟨rfl, b2⟩
            have hown2 := own_below hown b2
            have HB2 := hide (belows' (unhide HB) b2)
            have hbs2 := (unhide HB2).size
            clear b2 HM hown HB
            go_wp2
            exact ⟨⟨f, n, a + k, a + ll, none, acc, by first | rfl | go_num, by go_num, by first | go_num | (rw [hzl]; go_num), by omega, by omega, hide (fun b h => by cases h), by omega, by omega, HN, HE2, hown2, HB2⟩, by simp [intOf]; omega⟩
        | some b =>
          have hbl := unhide HBB b rfl
          have z1 : begZ (some b) = (b : Int) := rfl
          rw [z1]
          have z2 : (b : Int) ≥ 0 := by omega
          have z3 : decide ((b : Int) ≥ 0) = true := decide_eq_true z2
          obtain ⟨mx, hmx⟩ : ∃ mx, max b en = mx := ⟨_, rfl⟩
          dsimp only at he
          rw [hmx] at he
          have hm1 : b ≤ mx := by omega
          have hm2 : mx ≤ body.size := by omega
          have hm3 : (b : Int) ≤ (mx : Int) := by omega
          have hm4 : (mx : Int) ≤ (body.size : Int) := by omega
          have hm5 : max (b : Int) (en : Int) = (mx : Int) := by omega
          have HBB2 := HBB
          cases mc with
          | true =>
            have hmb := hone rfl
            subst hmb
            simp only [if_true] at he
            have HF := hide he.symm
            clear he HBB HBB2 hone hmx
            go_wp2_with fail
            refine (unhide HL _).mono ?_
            rintro e wl ⟨rfl, hl⟩
            subst hl
            clear HL
            go_wp2_with fail
            refine (unhide HM _).mono ?_
            rintro e w2 ⟨rfl, b2⟩
            have hown2 := own_below hown b2
            have HB2 := hide (belows' (unhide HB) b2)
            have hbs2 := (unhide HB2).size
            clear b2 HM hown HB
            have HNX : Hid (acc.map (cutV body) ++ [.string (body.extract b mx)] = (acc ++ [(b, mx)]).map (cutV body) ∧ (acc ++ [(b, mx)]).length = n + 1) := hide ⟨by rw [List.map_append]; rfl, by rw [List.length_append, unhide HN]; rfl⟩
            go_wp2_with (at_builtin; refine wpList_append_own _ rfl _ _ 43 rfl w.heap.size 9 i0 (.string ByteArray.empty) 1 16 Tryz.underlying43 hi hz0 hz1 hz2 rfl (by decide) _ _ _ rfl (hown2.alloc _) ⟨w2.heap.size, 0, none⟩ 1 1 [.string (body.extract b mx)] rfl rfl (fun j u hj => new_cells w2 9 #[.string (body.extract b mx)] _ rfl j u hj) (by intro u hu; simp at hu; rw [hu]; rfl) (by unfold maxLen; omega) (by omega) (by simp; omega) ?_)
            intro v' w4 hown' hgrow _
            have hb4 : Below w.heap.size w w4 := ((unhide HB2).alloc hbs2 _).grown hgrow (by simp; omega) (fun g hg => (hown2.lt g hg).1)
            rw [(unhide HNX).1] at hown'
            have O4 := hide hown'
            have B4 := hide hb4
            clear hown' hb4 hgrow
            obtain ⟨ay2, cy2, hv2⟩ := own_formH (unhide O4)
            subst hv2
            go_wp2
            go_ret
            exact ⟨_, rfl, by rw [unhide HF, (unhide HNX).2]; exact unhide O4, by rw [unhide HF, (unhide HNX).2]; omega, unhide B4⟩
          | false =>
            simp only [Bool.false_eq_true, if_false] at he
            cases mb with
            | true =>
              simp only [if_true] at he
              have HE2 := hide he
              clear he HBB HBB2 hone hmx
              go_wp2_with fail
              refine (unhide HL _).mono ?_
              rintro e wl ⟨rfl, hl⟩
              subst hl
              clear HL
              go_wp2_with fail
              refine (unhide HM _).mono ?_
              rintro e w2 ⟨rfl, b2⟩
              have hown2 := own_below hown b2
              have HB2 := hide (belows' (unhide HB) b2)
              have hbs2 := (unhide HB2).size
              clear b2 HM hown HB
              have HNX : Hid (acc.map (cutV body) ++ [.string (body.extract b mx)] = (acc ++ [(b, mx)]).map (cutV body) ∧ (acc ++ [(b, mx)]).length = n + 1) := hide ⟨by rw [List.map_append]; rfl, by rw [List.length_append, unhide HN]; rfl⟩
              go_wp2_with (at_builtin; refine wpList_append_own _ rfl _ _ 43 rfl w.heap.size 9 i0 (.string ByteArray.empty) 1 16 Tryz.underlying43 hi hz0 hz1 hz2 rfl (by decide) _ _ _ rfl (hown2.alloc _) ⟨w2.heap.size, 0, none⟩ 1 1 [.string (body.extract b mx)] rfl rfl (fun j u hj => new_cells w2 9 #[.string (body.extract b mx)] _ rfl j u hj) (by intro u hu; simp at hu; rw [hu]; rfl) (by unfold maxLen; omega) (by omega) (by simp; omega) ?_)
              intro v' w4 hown' hgrow _
              have hb4 : Below w.heap.size w w4 := ((unhide HB2).alloc hbs2 _).grown hgrow (by simp; omega) (fun g hg => (hown2.lt g hg).1)
              rw [(unhide HNX).1] at hown'
              have O4 := hide hown'
              have B4 := hide hb4
              clear hown' hb4 hgrow
              go_wp2
              exact ⟨⟨f, n + 1, a + k, a + ll, some (a + k), acc ++ [(b, mx)], by first | rfl | go_num, by go_num, by first | go_num | (rw [hzl]; go_num), by omega, by omega, hide (fun b h => by injection h with h; omega), by omega, by omega, hide (unhide HNX).2, HE2, unhide O4, B4⟩, by simp [intOf]; omega⟩
            | false =>
              simp only [Bool.false_eq_true, if_false] at he
              have HE2 := hide he
              clear he HBB hone hmx
              go_wp2_with fail
              refine (unhide HL _).mono ?_
              rintro e wl ⟨rfl, hl⟩
              subst hl
              clear HL
              go_wp2_with fail
              refine (unhide HM _).mono ?_
              rintro e w2 ⟨rfl, b2⟩
              have hown2 := own_below hown b2
              have HB2 := hide (belows' (unhide HB) b2)
              have hbs2 := (unhide HB2).size
              clear b2 HM hown HB
              go_wp2
              exact ⟨⟨f, n, a + k, a + ll, some b, acc, by first | rfl | go_num, by go_num, by first | go_num | (rw [hzl]; go_num), by omega, by omega, HBB2, by omega, by omega, HN, HE2, hown2, HB2⟩, by simp [intOf]; omega⟩
      · have hn3 : ¬ (n : Int) < 256 := by omega
        have hn4 : decide ((n : Int) < 256) = false := decide_eq_false hn3
        have hn5 : decide (n < 256) = false := decide_eq_false hn2
        rw [if_neg (by omega)] at he
        cases beg with
        | none =>
          have HF : Hid (R = acc) := hide he.symm
          have hm := unhide HN
          have HO := hide hown
          obtain ⟨ay, cy, rfl⟩ := own_formH hown
          have z1 : begZ none = -1 := rfl
          rw [z1]
          clear he HE hown HBB
          go_wp2
          go_ret
          exact ⟨_, rfl, by rw [unhide HF, hm]; exact unhide HO, by rw [unhide HF, hm]; omega, unhide HB⟩
        | some b =>
          have hbl := unhide HBB b rfl
          have z1 : begZ (some b) = (b : Int) := rfl
          rw [z1]
          have z2 : (b : Int) ≥ 0 := by omega
          have z3 : decide ((b : Int) ≥ 0) = true := decide_eq_true z2
          have z4 : (b : Int) ≤ (body.size : Int) := by omega
          have HF : Hid (R = acc ++ [(b, body.size)]) := hide he.symm
          have hbs2 := hbs
          obtain ⟨ay0, cy0, hvy0⟩ := own_formH hown
          subst hvy0
          clear he HE HBB
          have HNX : Hid (acc.map (cutV body) ++ [.string (body.extract b body.size)] = (acc ++ [(b, body.size)]).map (cutV body) ∧ (acc ++ [(b, body.size)]).length = n + 1) := hide ⟨by rw [List.map_append]; rfl, by rw [List.length_append, unhide HN]; rfl⟩
          go_wp2_with (at_builtin; refine wpList_append_own _ rfl _ _ 43 rfl w.heap.size 9 i0 (.string ByteArray.empty) 1 16 Tryz.underlying43 hi hz0 hz1 hz2 rfl (by decide) _ _ _ rfl (hown.alloc _) ⟨wr.heap.size, 0, none⟩ 1 1 [.string (body.extract b body.size)] rfl rfl (fun j u hj => new_cells wr 9 #[.string (body.extract b body.size)] _ rfl j u hj) (by intro u hu; simp at hu; rw [hu]; rfl) (by unfold maxLen; omega) (by omega) (by simp; omega) ?_)
          intro v' w4 hown' hgrow _
          have hb4 : Below w.heap.size w w4 := ((unhide HB).alloc hbs2 _).grown hgrow (by simp; omega) (fun g hg => (hown.lt g hg).1)
          rw [(unhide HNX).1] at hown'
          have O4 := hide hown'
          have B4 := hide hb4
          clear hown' hb4 hgrow
          obtain ⟨ay, cy, rfl⟩ := own_formH (unhide O4)
          clear hown
          go_wp2
          go_ret
          exact ⟨_, rfl, by rw [unhide HF, (unhide HNX).2]; exact unhide O4, by rw [unhide HF, (unhide HNX).2]; omega, unhide B4⟩
    · have ha1 : ¬ (a : Int) < (body.size : Int) := by omega
      rw [if_neg (by omega)] at he
      cases beg with
      | none =>
        have HF : Hid (R = acc) := hide he.symm
        have hm := unhide HN
        have HO := hide hown
        obtain ⟨ay, cy, rfl⟩ := own_formH hown
        have z1 : begZ none = -1 := rfl
        rw [z1]
        clear he HE hown HBB
        go_wp2
        go_ret
        exact ⟨_, rfl, by rw [unhide HF, hm]; exact unhide HO, by rw [unhide HF, hm]; omega, unhide HB⟩
      | some b =>
        have hbl := unhide HBB b rfl
        have z1 : begZ (some b) = (b : Int) := rfl
        rw [z1]
        have z2 : (b : Int) ≥ 0 := by omega
        have z3 : decide ((b : Int) ≥ 0) = true := decide_eq_true z2
        have z4 : (b : Int) ≤ (body.size : Int) := by omega
        have HF : Hid (R = acc ++ [(b, body.size)]) := hide he.symm
        have hbs2 := hbs
        obtain ⟨ay0, cy0, hvy0⟩ := own_formH hown
        subst hvy0
        clear he HE HBB
        have HNX : Hid (acc.map (cutV body) ++ [.string (body.extract b body.size)] = (acc ++ [(b, body.size)]).map (cutV body) ∧ (acc ++ [(b, body.size)]).length = n + 1) := hide ⟨by rw [List.map_append]; rfl, by rw [List.length_append, unhide HN]; rfl⟩
        go_wp2_with (at_builtin; refine wpList_append_own _ rfl _ _ 43 rfl w.heap.size 9 i0 (.string ByteArray.empty) 1 16 Tryz.underlying43 hi hz0 hz1 hz2 rfl (by decide) _ _ _ rfl (hown.alloc _) ⟨wr.heap.size, 0, none⟩ 1 1 [.string (body.extract b body.size)] rfl rfl (fun j u hj => new_cells wr 9 #[.string (body.extract b body.size)] _ rfl j u hj) (by intro u hu; simp at hu; rw [hu]; rfl) (by unfold maxLen; omega) (by omega) (by simp; omega) ?_)
        intro v' w4 hown' hgrow _
        have hb4 : Below w.heap.size w w4 := ((unhide HB).alloc hbs2 _).grown hgrow (by simp; omega) (fun g hg => (hown.lt g hg).1)
        rw [(unhide HNX).1] at hown'
        have O4 := hide hown'
        have B4 := hide hb4
        clear hown' hb4 hgrow
        obtain ⟨ay, cy, rfl⟩ := own_formH (unhide O4)
        clear hown
        go_wp2
        go_ret
        exact ⟨_, rfl, by rw [unhide HF, (unhide HNX).2]; exact unhide O4, by rw [unhide HF, (unhide HNX).2]; omega, unhide B4⟩
end Go.Proofs.YtedpimhhbajljaaGreatDoor
