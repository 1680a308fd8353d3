/-
  The walk of the document's ParseTime of layer 10, over this seat's program.
-/
import Derived.Test.YtoegfnonfmcnbaaDoorRpd
import Derived.Test.YtoegfnonfmcnbaaDoorRtm
import Derived.Deep.RegionHeld3
import Derived.Deep.CutRange
import Derived.BigGuardPart
set_option linter.unusedVariables false
namespace Go.Proofs.YtoegfnonfmcnbaaDoor
open Go.RowKit Go.Proofs.Dcl

set_option maxHeartbeats 2000000 in
set_option maxRecDepth 100000 in
theorem refParseT_long (s : ByteArray) (w : World) (h : s.size ≠ 26) :
    Calls Tryd.prog 13 #[.string s] w fun e w' => e = .returned (timV (docT s.data.toList)) ∧ Below w.heap.size w w' := by
  have HR : Hid (docT s.data.toList = none) := hide (by unfold docT; rw [if_pos (by rw [sizeL]; exact h)])
  have h1 : ((s.size : Int) != 26) = true := by rw [bne_iff_ne]; omega
  clear h
  go_enter Tryd.func13, Tryd.ntmps13
  go_wp2
  refine bodyPost_ret (v := timV none) (by simp [results, Tryd.results13, go_sem, timV]) rfl ⟨by rw [unhide HR], ?_⟩
  exact (Below.refl _ w).alloc (Nat.le_refl _) _

theorem neN (c d : UInt8) (n : Int) (hd : (d.toNat : Int) = n) : (c ≠ d) = ((c.toNat : Int) ≠ n) := by
  apply propext
  constructor
  · intro h e
    apply h
    apply UInt8.toNat_inj.mp
    omega
  · intro h e
    subst e
    apply h
    omega
theorem neq_no (c d : UInt8) (n : Nat) (h : c = d) (hd : d.toNat = n) : ((c.toNat : Int) != (n : Int)) = false := by subst h; rw [hd]; simp
theorem neq_yes (c d : UInt8) (n : Nat) (h : c ≠ d) (hd : d.toNat = n) : ((c.toNat : Int) != (n : Int)) = true := by
  rw [bne_iff_ne]
  intro e
  apply h
  apply UInt8.toNat_inj.mp
  omega

set_option maxHeartbeats 8000000 in
set_option maxRecDepth 100000 in
theorem refParseT_in (s : ByteArray) (w : World) (h : s.size = 26) :
    Calls Tryd.prog 13 #[.string s] w fun e w' => e = .returned (timV (docT s.data.toList)) ∧ Below w.heap.size w w' := by
  obtain ⟨D, hD⟩ : ∃ D, D = bts (docDay s.data.toList) := ⟨_, rfl⟩
  have h1 : ((s.size : Int) != 26) = false := by rw [h]; rfl
  have s0 := fun W => slice_upto s 11 11 rfl (by omega) W
  obtain ⟨x, hx⟩ : ∃ x, x = s.extract 0 11 := ⟨_, rfl⟩
  rw [← hx] at s0
  have hxs : x.size = 11 := by rw [hx, size_part s 0 11 (by omega)]
  have hx0 : 0 < x.size := by omega
  have hs0 : 0 < s.size := by omega
  have hxl : x.data.toList = s.data.toList.take 11 := by rw [hx, toList_upto]
  have hxb : x[0] = s[0] := by
    have e1 := getD_byte x 0 hx0
    have e2 := getD_byte s 0 hs0
    rw [← e1, ← e2, hxl]
    simp [List.getD_eq_getElem?_getD]
  have s1 := fun W => slice_from x 1 1 rfl (by omega) W
  rw [hxs] at s1
  have HDAY : Hid ((x[0] = 32 → D = x.extract 1 11) ∧ (x[0] ≠ 32 → x[0] = 48 → D = x.extract 1 11) ∧ (x[0] ≠ 32 → x[0] ≠ 48 → D = x)) := hide (by
    have e1 : (x.extract 1 11).data.toList = (s.data.toList.take 11).drop 1 := by
      have := toList_from x 1
      rw [hxs] at this
      rw [this, hxl]
    have e2 : s.data.toList.getD 0 0 = x[0] := by rw [getD_byte s 0 hs0, hxb]
    unfold docDay at hD
    rw [e2] at hD
    refine ⟨fun a => ?_, fun a b => ?_, fun a b => ?_⟩
    · rw [if_pos a] at hD
      rw [hD]; apply ext_list; rw [toList_bts, e1]
    · rw [if_neg a, if_pos b] at hD
      rw [hD]; apply ext_list; rw [toList_bts, e1]
    · rw [if_neg a, if_neg b] at hD
      rw [hD]; apply ext_list; rw [toList_bts, hxl])
  have HPA := hide (fun W => refParse10_any D W)
  rw [hD, toList_bts, ← hD] at HPA
  have mk : ∀ a : Nat, a + 2 ≤ 26 → Hid (∀ W, Calls Tryd.prog 18 #[.string (s.extract a (a + 2)), .int .i64 2, .int .i64 2] W fun e w' => e = .returned (.int .i64 (twoA s.data.toList a)) ∧ w' = W) := fun a ha => hide (fun W => by
    have := refDigits_any (s.extract a (a + 2)) 2 2 W (by omega) (by omega)
    rw [toList_part, show a + 2 - a = 2 by omega] at this
    exact this)
  have H12 := mk 12 (by omega)
  have H15 := mk 15 (by omega)
  have H18 := mk 18 (by omega)
  have H22 := mk 22 (by omega)
  have H24 := mk 24 (by omega)
  have t12 : ∀ W : World, (Instr.slice 9 (.string s) (some (.int .i64 12)) (some (.int .i64 14)) none).run Tryd.prog W = .ok (.string (s.extract 12 (12 + 2))) W := fun W => slice_km s 12 2 (by omega) W
  have t15 : ∀ W : World, (Instr.slice 9 (.string s) (some (.int .i64 15)) (some (.int .i64 17)) none).run Tryd.prog W = .ok (.string (s.extract 15 (15 + 2))) W := fun W => slice_km s 15 2 (by omega) W
  have t18 : ∀ W : World, (Instr.slice 9 (.string s) (some (.int .i64 18)) (some (.int .i64 20)) none).run Tryd.prog W = .ok (.string (s.extract 18 (18 + 2))) W := fun W => slice_km s 18 2 (by omega) W
  have t22 : ∀ W : World, (Instr.slice 9 (.string s) (some (.int .i64 22)) (some (.int .i64 24)) none).run Tryd.prog W = .ok (.string (s.extract 22 (22 + 2))) W := fun W => slice_km s 22 2 (by omega) W
  have t24 : ∀ W : World, (Instr.slice 9 (.string s) (some (.int .i64 24)) (some (.int .i64 26)) none).run Tryd.prog W = .ok (.string (s.extract 24 (24 + 2))) W := fun W => slice_km s 24 2 (by omega) W
  generalize s.extract 12 (12 + 2) = y12 at H12 t12
  generalize s.extract 15 (15 + 2) = y15 at H15 t15
  generalize s.extract 18 (18 + 2) = y18 at H18 t18
  generalize s.extract 22 (22 + 2) = y22 at H22 t22
  generalize s.extract 24 (24 + 2) = y24 at H24 t24
  obtain ⟨n, c, hnc, hc⟩ : ∃ n c : Int, numV (docP (docDay s.data.toList)) 7 = .tuple #[.int .i64 n, .int .i64 c] ∧ ((c = 0 ∧ docP (docDay s.data.toList) = some n) ∨ (c = 7 ∧ docP (docDay s.data.toList) = none)) := by
    cases docP (docDay s.data.toList) with
    | none => exact ⟨0, 7, rfl, Or.inr ⟨rfl, rfl⟩⟩
    | some n => exact ⟨n, 0, rfl, Or.inl ⟨rfl, rfl⟩⟩
  rw [hnc] at HPA
  have HC := hide hc
  have hdoc : docT s.data.toList = match docP (docDay s.data.toList) with
    | none => none
    | some n => if badT s.data.toList then none else some (n, 3600 * twoA s.data.toList 12 + 60 * twoA s.data.toList 15 + twoA s.data.toList 18, if s.data.toList.getD 21 0 = 45 then -(60 * twoA s.data.toList 22 + twoA s.data.toList 24) else 60 * twoA s.data.toList 22 + twoA s.data.toList 24) := by
    unfold docT
    rw [if_neg (by rw [sizeL]; simp [h])]
    rfl
  have HDOC := hide hdoc
  have HBAD : Hid (badT s.data.toList = decide (s.data.toList.getD 11 0 ≠ 32 ∨ s.data.toList.getD 14 0 ≠ 58 ∨ s.data.toList.getD 17 0 ≠ 58 ∨ s.data.toList.getD 20 0 ≠ 32 ∨ (s.data.toList.getD 21 0 ≠ 43 ∧ s.data.toList.getD 21 0 ≠ 45) ∨ twoA s.data.toList 12 < 0 ∨ 23 < twoA s.data.toList 12 ∨ twoA s.data.toList 15 < 0 ∨ 59 < twoA s.data.toList 15 ∨ twoA s.data.toList 18 < 0 ∨ 59 < twoA s.data.toList 18 ∨ twoA s.data.toList 22 < 0 ∨ twoA s.data.toList 24 < 0 ∨ 59 < twoA s.data.toList 24)) := hide rfl
  have rng : ∀ a : Nat, -1 ≤ twoA s.data.toList a ∧ twoA s.data.toList a < 100 := by
    intro a
    unfold twoA
    cases hq : numR ((s.data.toList.drop a).take 2) 2 2 with
    | none => simp [digV]
    | some k =>
      have := (numR_le hq).2
      simp only [digV]
      omega
  have r12 := rng 12
  have r15 := rng 15
  have r18 := rng 18
  have r22 := rng 22
  have r24 := rng 24
  clear rng mk hnc hc hdoc
  generalize twoA s.data.toList 12 = v12 at H12 HDOC HBAD r12
  generalize twoA s.data.toList 15 = v15 at H15 HDOC HBAD r15
  generalize twoA s.data.toList 18 = v18 at H18 HDOC HBAD r18
  generalize twoA s.data.toList 22 = v22 at H22 HDOC HBAD r22
  generalize twoA s.data.toList 24 = v24 at H24 HDOC HBAD r24
  have p11 : 11 < s.size := by omega
  have p14 : 14 < s.size := by omega
  have p17 : 17 < s.size := by omega
  have p20 : 20 < s.size := by omega
  have p21 : 21 < s.size := by omega
  have HBAD : Hid (badT s.data.toList = decide (s.data.toList.getD 11 0 ≠ 32 ∨ s.data.toList.getD 14 0 ≠ 58 ∨ s.data.toList.getD 17 0 ≠ 58 ∨ s.data.toList.getD 20 0 ≠ 32 ∨ (s.data.toList.getD 21 0 ≠ 43 ∧ s.data.toList.getD 21 0 ≠ 45) ∨ v12 < 0 ∨ 23 < v12 ∨ v15 < 0 ∨ 59 < v15 ∨ v18 < 0 ∨ 59 < v18 ∨ v22 < 0 ∨ v24 < 0 ∨ 59 < v24)) := HBAD
  rw [getD_byte s 11 p11, getD_byte s 14 p14, getD_byte s 17 p17, getD_byte s 20 p20, getD_byte s 21 p21] at HBAD
  rw [getD_byte s 21 p21] at HDOC
  obtain ⟨B, hB⟩ : ∃ B : Bool, B = badT s.data.toList := ⟨_, rfl⟩
  have HBT : Hid (B = true ↔ ((s[11].toNat : Int) ≠ 32 ∨ (s[14].toNat : Int) ≠ 58 ∨ (s[17].toNat : Int) ≠ 58 ∨ (s[20].toNat : Int) ≠ 32 ∨ ((s[21].toNat : Int) ≠ 43 ∧ (s[21].toNat : Int) ≠ 45) ∨ v12 < 0 ∨ 23 < v12 ∨ v15 < 0 ∨ 59 < v15 ∨ v18 < 0 ∨ 59 < v18 ∨ v22 < 0 ∨ v24 < 0 ∨ 59 < v24)) := hide (by
    rw [hB, unhide HBAD]
    simp only [decide_eq_true_eq, neN s[11] 32 32 rfl, neN s[14] 58 58 rfl, neN s[17] 58 58 rfl, neN s[20] 32 32 rfl, neN s[21] 43 43 rfl, neN s[21] 45 45 rfl])
  have HBE := hide hB
  clear HBAD hB
  clear hD hx hxl hxb
  go_enter Tryd.func13, Tryd.ntmps13
  go_upto_if 21 with (fail)
  go_cut [4] from 17 to 28 (fun d wx => d = .string D ∧ wx = w.alloc (.cells #[.int .i64 0, .int .i64 0, .int .i64 0] 30))
  case first =>
    have hd := unhide HDAY
    clear HDAY HPA
    by_cases a : x[0] = 32
    · have q1 : ((x[0].toNat : Int) == 32) = true := by rw [a]; rfl
      have hd1 := hd.1 a
      clear hd a
      go_wp2
      go_meet
      exact ⟨by rw [hd1], rfl⟩
    · have q1 : ((x[0].toNat : Int) == 32) = false := by
        have := beqD x[0] 32 32 rfl
        rw [decide_eq_false a] at this
        exact this
      by_cases b : x[0] = 48
      · have q2 : ((x[0].toNat : Int) == 48) = true := by rw [b]; rfl
        have hd1 := hd.2.1 a b
        clear hd a b
        go_wp2
        go_meet
        exact ⟨by rw [hd1], rfl⟩
      · have q2 : ((x[0].toNat : Int) == 48) = false := by
          have := beqD x[0] 48 48 rfl
          rw [decide_eq_false b] at this
          exact this
        have hd1 := hd.2.2 a b
        clear hd a b
        go_wp2
        go_meet
        exact ⟨by rw [hd1], rfl⟩
  case rest =>
  obtain ⟨rfl, rfl⟩ := hcut
  clear HDAY s0 s1 hxs hx0
  go_wp2_with fail
  refine (unhide HPA _).mono ?_
  rintro e w2 ⟨rfl, b2⟩
  have HBK := hide (Blk.below (Blk.new w 30 #[.int .i64 0, .int .i64 0, .int .i64 0]) b2)
  have HB := hide (belows' ((Below.refl _ w).alloc (Nat.le_refl _) (.cells #[.int .i64 0, .int .i64 0, .int .i64 0] 30)) b2)
  clear b2 HPA
  go_upto_region 9 with (fail)
  go_cut [7, 8, 9] from 34 to 42 (fun a b d wx => a = .int .i64 v12 ∧ b = .int .i64 v15 ∧ d = .int .i64 v18 ∧ wx = w2.drew)
  case first =>
    go_region_held3 (fun _ => True) (trivial) (first
      | (go_at_call_of 18 (Value.string y12); refine (unhide H12 _).mono ?_; rintro e w3 ⟨rfl, h4⟩; subst h4)
      | (go_at_call_of 18 (Value.string y15); refine (unhide H15 _).mono ?_; rintro e w3 ⟨rfl, h4⟩; subst h4)
      | (go_at_call_of 18 (Value.string y18); refine (unhide H18 _).mono ?_; rintro e w3 ⟨rfl, h4⟩; subst h4))
    all_goals (go_wp2_with fail; go_meet; exact ⟨rfl, rfl, rfl, rfl⟩)
  case rest =>
  obtain ⟨rfl, rfl, rfl, rfl⟩ := hcut
  clear H12 H15 H18 t12 t15 t18
  go_upto_region 10 with (fail)
  go_cut [10, 11] from 43 to 48 (fun a b wx => a = .int .i64 v22 ∧ b = .int .i64 v24 ∧ wx = w2.drew.drew)
  case first =>
    go_region_held3 (fun _ => True) (trivial) (first
      | (go_at_call_of 18 (Value.string y22); refine (unhide H22 _).mono ?_; rintro e w3 ⟨rfl, h4⟩; subst h4)
      | (go_at_call_of 18 (Value.string y24); refine (unhide H24 _).mono ?_; rintro e w3 ⟨rfl, h4⟩; subst h4))
    all_goals (go_wp2_with fail; go_meet; exact ⟨rfl, rfl, rfl⟩)
  case rest =>
  obtain ⟨rfl, rfl, rfl⟩ := hcut
  clear H22 H24 t22 t24
  obtain ⟨w4, hw4⟩ : ∃ w4, w4 = w2.drew.drew := ⟨_, rfl⟩
  have HBK4 : Hid (Blk w4 w.heap.size 30 #[.int .i64 0, .int .i64 0, .int .i64 0]) := hide (by rw [hw4]; exact unhide HBK)
  have HB4 : Hid (Below w.heap.size w w4) := hide (by rw [hw4]; exact (unhide HB).drew.drew)
  rw [← hw4]
  clear hw4 HBK HB
  have r0 : w4.cell? ⟨w.heap.size, 0, none⟩ = some (.int .i64 0) := (Blk.cell (unhide HBK4) 0).trans rfl
  have r1 : w4.cell? ⟨w.heap.size, 1, none⟩ = some (.int .i64 0) := (Blk.cell (unhide HBK4) 1).trans rfl
  have r2 : w4.cell? ⟨w.heap.size, 2, none⟩ = some (.int .i64 0) := (Blk.cell (unhide HBK4) 2).trans rfl
  have f0 := Blk.frozen (unhide HBK4) 0
  have f1 := Blk.frozen (unhide HBK4) 1
  have f2 := Blk.frozen (unhide HBK4) 2
  have hlt := Blk.lt (unhide HBK4)
  rcases unhide HC with ⟨hc0, hdp⟩ | ⟨hc0, hdp⟩
  · subst hc0
    go_upto_region 11 with (fail)
    go_cut [116] from 49 to 116 (fun v wx => v = .bool B ∧ wx = w4)
    case first =>
      clear HDOC HC HBE HBK4 HB4 r12 r15 r18 r22 r24 h1 hs0 r0 r1 r2 f0 f1 f2 hlt hdp
      apply wp_region_lit
      change wpList _ (List.toArray (_ :: _ :: _ :: _ :: _ :: _ :: _ :: _ :: _ :: _ :: _ :: _ :: _ :: _ :: _ :: _ :: _ :: _ :: _ :: _ :: _ :: _ :: _ :: _ :: _ :: _ :: _ :: _ :: _ :: _ :: _ :: _ :: _ :: _ :: _ :: _ :: _ :: _ :: _ :: _ :: _ :: _ :: _ :: _ :: _ :: _ :: _ :: _ :: _ :: _ :: _ :: _ :: _ :: _ :: _ :: _ :: _ :: _ :: _ :: _ :: _ :: _ :: _ :: _ :: _ :: _ :: _ :: _ :: [])) _ (_ :: _ :: _ :: _ :: _ :: _ :: _ :: _ :: _ :: _ :: _ :: _ :: _ :: _ :: _ :: _ :: _ :: _ :: _ :: _ :: _ :: _ :: _ :: _ :: _ :: _ :: _ :: _ :: _ :: _ :: _ :: _ :: _ :: _ :: _ :: _ :: _ :: _ :: _ :: _ :: _ :: _ :: _ :: _ :: _ :: _ :: _ :: _ :: _ :: _ :: _ :: _ :: _ :: _ :: _ :: _ :: _ :: _ :: _ :: _ :: _ :: _ :: _ :: _ :: _ :: _ :: _ :: _ :: []) _ _
      go_wp2
      all_goals
        go_meet
        refine ⟨congrArg Value.bool ?_, rfl⟩
        rw [Bool.eq_iff_iff, unhide HBT]
        try simp only [decide_eq_true_eq, true_iff]
        omega
    case rest =>
    obtain ⟨rfl, hwc⟩ := hcut
    rw [hwc]
    clear hwc
    cases hB : B
    · have HR : Hid (docT s.data.toList = some (n, 3600 * v12 + 60 * v15 + v18, if s[21] = 45 then -(60 * v22 + v24) else 60 * v22 + v24)) := hide (by
        rw [unhide HDOC, hdp]
        have : badT s.data.toList = false := by rw [← unhide HBE, hB]
        simp only [this, Bool.false_eq_true, if_false])
      have hg := mt (unhide HBT).2 (by rw [hB]; simp)
      have g1 : 0 ≤ v12 := by omega
      have g2 : 0 ≤ v15 := by omega
      have g3 : 0 ≤ v18 := by omega
      have g4 : 0 ≤ v22 := by omega
      have g5 : 0 ≤ v24 := by omega
      clear HBT HBE HDOC HC hB hg hdp
      by_cases h45 : s[21] = 45
      · have q1 : ((s[21].toNat : Int) == 45) = true := by rw [h45]; rfl
        rw [if_pos h45] at HR
        clear h45
        go_wp2
        have kk := Blk.below ((((unhide HBK4).set 0 (.int .i64 n)).set 1 (.int .i64 (3600 * v12 + 60 * v15 + v18))).set 2 (.int .i64 (-(60 * v22 + v24)))) ((Below.refl _ _).alloc (Nat.le_refl _) (.cells #[.int .i64 n, .int .i64 (3600 * v12 + 60 * v15 + v18), .int .i64 (-(60 * v22 + v24))] 30))
        have c0 := (Blk.cell kk 0).trans (show _ = some (Value.int .i64 n) from rfl)
        have c1 := (Blk.cell kk 1).trans (show _ = some (Value.int .i64 (3600 * v12 + 60 * v15 + v18)) from rfl)
        have c2 := (Blk.cell kk 2).trans (show _ = some (Value.int .i64 (-(60 * v22 + v24))) from rfl)
        refine bodyPost_ret (v := timV (some (n, 3600 * v12 + 60 * v15 + v18, -(60 * v22 + v24)))) (by simp [results, Tryd.results13, go_sem, timV, c0, c1, c2]) rfl ⟨by rw [unhide HR], ?_⟩
        have hbz := (unhide HB4).size
        exact ((((unhide HB4).setCell (p := ⟨w.heap.size, 0, none⟩) (Nat.le_refl _) _).setCell (p := ⟨w.heap.size, 1, none⟩) (Nat.le_refl _) _).setCell (p := ⟨w.heap.size, 2, none⟩) (Nat.le_refl _) _).alloc (by simp; omega) _
      · have q1 : ((s[21].toNat : Int) == 45) = false := by
          have := beqD s[21] 45 45 rfl
          rw [decide_eq_false h45] at this
          exact this
        rw [if_neg h45] at HR
        clear h45
        go_wp2
        have kk := Blk.below ((((unhide HBK4).set 0 (.int .i64 n)).set 1 (.int .i64 (3600 * v12 + 60 * v15 + v18))).set 2 (.int .i64 (60 * v22 + v24))) ((Below.refl _ _).alloc (Nat.le_refl _) (.cells #[.int .i64 n, .int .i64 (3600 * v12 + 60 * v15 + v18), .int .i64 (60 * v22 + v24)] 30))
        have c0 := (Blk.cell kk 0).trans (show _ = some (Value.int .i64 n) from rfl)
        have c1 := (Blk.cell kk 1).trans (show _ = some (Value.int .i64 (3600 * v12 + 60 * v15 + v18)) from rfl)
        have c2 := (Blk.cell kk 2).trans (show _ = some (Value.int .i64 (60 * v22 + v24)) from rfl)
        refine bodyPost_ret (v := timV (some (n, 3600 * v12 + 60 * v15 + v18, 60 * v22 + v24))) (by simp [results, Tryd.results13, go_sem, timV, c0, c1, c2]) rfl ⟨by rw [unhide HR], ?_⟩
        have hbz := (unhide HB4).size
        exact ((((unhide HB4).setCell (p := ⟨w.heap.size, 0, none⟩) (Nat.le_refl _) _).setCell (p := ⟨w.heap.size, 1, none⟩) (Nat.le_refl _) _).setCell (p := ⟨w.heap.size, 2, none⟩) (Nat.le_refl _) _).alloc (by simp; omega) _
    · have HR : Hid (docT s.data.toList = none) := hide (by
        rw [unhide HDOC, hdp]
        have : badT s.data.toList = true := by rw [← unhide HBE, hB]
        simp only [this, if_true])
      clear HBT HBE HDOC HC hB hdp
      go_wp2
      refine bodyPost_ret (v := timV none) (by simp [results, Tryd.results13, go_sem, timV, r0, r1, r2]) rfl ⟨by rw [unhide HR], ?_⟩
      exact (((unhide HB4).setCell (p := ⟨w.heap.size, 0, none⟩) (Nat.le_refl _) _).setCell (p := ⟨w.heap.size, 1, none⟩) (Nat.le_refl _) _).setCell (p := ⟨w.heap.size, 2, none⟩) (Nat.le_refl _) _
  · subst hc0
    have HR : Hid (docT s.data.toList = none) := hide (by rw [unhide HDOC, hdp])
    clear HBT HBE HDOC HC hdp
    go_upto_region 11 with (fail)
    apply wp_region_lit
    change wpList _ (List.toArray (_ :: _ :: _ :: _ :: _ :: _ :: _ :: _ :: _ :: _ :: _ :: _ :: _ :: _ :: _ :: _ :: _ :: _ :: _ :: _ :: _ :: _ :: _ :: _ :: _ :: _ :: _ :: _ :: _ :: _ :: _ :: _ :: _ :: _ :: _ :: _ :: _ :: _ :: _ :: _ :: _ :: _ :: _ :: _ :: _ :: _ :: _ :: _ :: _ :: _ :: _ :: _ :: _ :: _ :: _ :: _ :: _ :: _ :: _ :: _ :: _ :: _ :: _ :: _ :: _ :: _ :: _ :: _ :: [])) _ (_ :: _ :: _ :: _ :: _ :: _ :: _ :: _ :: _ :: _ :: _ :: _ :: _ :: _ :: _ :: _ :: _ :: _ :: _ :: _ :: _ :: _ :: _ :: _ :: _ :: _ :: _ :: _ :: _ :: _ :: _ :: _ :: _ :: _ :: _ :: _ :: _ :: _ :: _ :: _ :: _ :: _ :: _ :: _ :: _ :: _ :: _ :: _ :: _ :: _ :: _ :: _ :: _ :: _ :: _ :: _ :: _ :: _ :: _ :: _ :: _ :: _ :: _ :: _ :: _ :: _ :: _ :: _ :: []) _ _
    go_wp2
    refine bodyPost_ret (v := timV none) (by simp [results, Tryd.results13, go_sem, timV, r0, r1, r2]) rfl ⟨by rw [unhide HR], ?_⟩
    exact (((unhide HB4).setCell (p := ⟨w.heap.size, 0, none⟩) (Nat.le_refl _) _).setCell (p := ⟨w.heap.size, 1, none⟩) (Nat.le_refl _) _).setCell (p := ⟨w.heap.size, 2, none⟩) (Nat.le_refl _) _

/-- The document's ParseTime. -/
theorem refParseT_any (s : ByteArray) (w : World) :
    Calls Tryd.prog 13 #[.string s] w fun e w' => e = .returned (timV (docT s.data.toList)) ∧ Below w.heap.size w w' := by
  by_cases h : s.size = 26
  · exact refParseT_in s w h
  · exact refParseT_long s w h
end Go.Proofs.YtoegfnonfmcnbaaDoor
