/-
  What is told of what was found: plain mathematics.
-/
import Derived.Test.YtihgmpebpkjmkaaGreatDoorNwp
import Derived.Test.YtihgmpebpkjmkaaGreatDoorNwq
import Derived.Test.YtihgmpebpkjmkaaGreatDoorNwi
import Derived.Test.YtihgmpebpkjmkaaGreatDoorNfm
import Derived.Test.YtihgmpebpkjmkaaGreatDoorBnd3
import Derived.Test.YtihgmpebpkjmkaaGreatDoorBnd1
set_option linter.unusedVariables false
namespace Go.Proofs.YtihgmpebpkjmkaaGreatDoor
open Go.RowKit Go.Proofs.Nst

/-- A tally. -/
structure Tly where
  want : Nat
  many : Int
  least : Nat
  most : Nat
  all : List Sp
deriving DecidableEq
def tlC (t : Tly) (v : Value) : Array Value := #[.int .u8 (t.want : Int), .int .i64 t.many, .int .u32 (t.least : Int), .int .u32 (t.most : Int), v]
def tlV (t : Tly) (v : Value) : Value := .agg (tlC t v)
def FitT (t : Tly) : Prop := t.want ≤ 255 ∧ (-9223372036854775808 ≤ t.many ∧ t.many ≤ 9223372036854775807) ∧ t.least ≤ 4294967295 ∧ t.most ≤ 4294967295
def zT : Tly := ⟨0, 0, 0, 0, []⟩
/-- Something is wanted. -/
def bitW (w k : Nat) : Bool := decide (w &&& k ≠ 0)
def wanted (t : Tly) : Bool := (bitW t.want 1 || decide (t.least = 0)) && ((bitW t.want 2 || decide (t.most = 0)) && ((bitW t.want 4 || decide (t.all.length = 0)) && (bitW t.want 8 || decide (t.many = 0))))
/-- The tally of numbers. -/
def ofT (w : Nat) (ns : List Nat) (P : List Sp) : Tly := ⟨w, if bitW w 8 = true then (ns.length : Int) else 0, if bitW w 1 = true then ns.headD 0 else 0, if bitW w 2 = true then ns.getLastD 0 else 0, if bitW w 4 = true then P else []⟩
def ofR (w : Nat) (ns : List Nat) : Tly × Nat :=
  if 15 < w ∨ 0 ∈ ns then (zT, 1) else if chk ns ≠ 0 then (zT, chk ns) else if ns = [] then (⟨w, 0, 0, 0, []⟩, 0)
  else if bitW w 4 = true ∧ (packR ns).2 ≠ 0 then (zT, 15) else (ofT w ns (packR ns).1, 0)
/-- The numbers of plain spans, if there are not too many. -/
def numsF : List Nat → List Sp → Option (List Nat)
  | acc, [] => some acc
  | acc, s :: r => if s.1 = 0 ∨ s.2 < s.1 ∨ 65536 ≤ acc.length + (s.2 - s.1) then none else numsF (acc ++ List.range' s.1 (s.2 - s.1 + 1)) r
def ofAll (t : Tly) : Bool := match numsF [] t.all with
  | none => false
  | some ns => decide ((ofR t.want ns).2 = 0) && (decide (t.many = (ofR t.want ns).1.many) && (decide (t.least = (ofR t.want ns).1.least) && (decide (t.most = (ofR t.want ns).1.most) && decide (t.all = (ofR t.want ns).1.all))))
def leastE (t : Tly) : Nat := if bitW t.want 1 = true then t.least else 1
def mostE (t : Tly) : Nat := if bitW t.want 2 = true then t.most else 4294967295
def fewE (t : Tly) : Int := if t.least ≠ 0 ∧ t.most ≠ 0 ∧ leastE t ≠ mostE t then 2 else 1
def ofSome (t : Tly) : Bool := if leastE t = 0 ∨ mostE t < leastE t then false else if bitW t.want 8 = false then true else decide (fewE t ≤ t.many ∧ t.many ≤ 65536 ∧ t.many ≤ (mostE t : Int) - leastE t + 1)
def ofNone (t : Tly) : Bool := decide (t.many = 0 ∧ t.least = 0 ∧ t.most = 0)
def rightT (t : Tly) : Bool := if 15 < t.want ∨ wanted t = false then false else if bitW t.want 4 = true then ofAll t else ofNone t || ofSome t
/-- The words. -/
def wordsT : List (List UInt8 × Nat) := [([77, 73, 78], 1), ([77, 65, 88], 2), ([65, 76, 76], 4), ([67, 79, 85, 78, 84], 8)]
def wordsC : List Value := wordsT.flatMap fun p => [.string (bts p.1), .int .u8 (p.2 : Int)]
/-- What stands behind a word. -/
def textT (t : Tly) (k : Nat) : List UInt8 :=
  if k = 1 ∧ t.least ≠ 0 then Lib.decDigits t.least else if k = 2 ∧ t.most ≠ 0 then Lib.decDigits t.most
  else if k = 4 ∧ t.all.length ≠ 0 then (writeR t.all).1 else if k = 8 ∧ bitW t.want 8 = true then Lib.decDigits t.many.toNat else []
def stepT (t : Tly) (b : List UInt8) (p : List UInt8 × Nat) : List UInt8 := if textT t p.2 = [] then b else (if b = [] then [] else b ++ [32]) ++ (p.1 ++ 32 :: textT t p.2)
def bodyT (t : Tly) : List UInt8 := wordsT.foldl (stepT t) []
def writeT (t : Tly) : List UInt8 × Nat := if rightT t = true then (bodyT t, 0) else ([], 2)
/-- A number that is read, or none. -/
def nText (s : List UInt8) : Nat := match Lib.parseUintB 32 s with | .ok u => u | _ => 0
def readT (t : Tly) (k : Nat) (s : List UInt8) : Tly :=
  if k = 1 then { t with least := nText s } else if k = 2 then { t with most := nText s } else if k = 4 then { t with all := (parseP s).1 } else if k = 8 then { t with many := (nText s : Int) } else t
def stepP (x : Tly × List UInt8) (p : List UInt8 × Nat) : Tly × List UInt8 :=
  if Lib.hasPrefix x.2 (p.1 ++ [32]) = true then (readT x.1 p.2 (cutB 32 (x.2.drop (p.1.length + 1))).1, (cutB 32 (x.2.drop (p.1.length + 1))).2.1) else x
def parT (w : Nat) (s : List UInt8) : Tly := (wordsT.foldl stepP ((⟨w, 0, 0, 0, []⟩ : Tly), s)).1
def parseT (w : Nat) (s : List UInt8) : Tly × Nat := if 15 < w then (zT, 1) else if writeT (parT w s) = (s, 0) then (parT w s, 0) else (zT, 7)

theorem below_dr {B : Nat} {a w : World} (h : Below B a w) (n : Nat) : Below B a (w.drewN n) := ⟨h.os, h.tape, h.output, h.size, h.block⟩
theorem and240 (f : Nat) (h : f ≤ 255) : decide (f &&& 240 = 0) = decide (f ≤ 15) := by
  have key : ∀ n : Fin 256, decide (n.val &&& 240 = 0) = decide (n.val ≤ 15) := by decide +kernel
  exact key ⟨f, by omega⟩
/-- A byte's bits, asked for by name. -/
theorem over15 (w : Nat) (h : w ≤ 255) : (bits .andNot .u8 (w : Int) 15 == 0) = decide (w ≤ 15) := by
  have e := u8_andNot_nat w 15 (by omega) (by omega)
  have hk : bits .andNot .u8 (w : Int) 15 = ((w &&& 240 : Nat) : Int) := by simpa using e
  rw [hk, ← and240 w h]
  by_cases h : w &&& 240 = 0
  · rw [h]; rfl
  · rw [decide_eq_false h, beq_eq_false_iff_ne]; omega
theorem bit_eq (w k : Nat) (h : w ≤ 255) (hk : k ≤ 255) : (bits .and .u8 (w : Int) (k : Int) == 0) = !bitW w k := by
  have e := u8_and_nat w k (by omega) (by omega)
  rw [e]
  unfold bitW
  by_cases h : w &&& k = 0
  · rw [h]; rfl
  · rw [decide_eq_true h, Bool.not_true, beq_eq_false_iff_ne]; omega
theorem over15n (w : Nat) (h : w ≤ 255) : (bits .andNot .u8 (w : Int) 15 != 0) = decide (15 < w) := by
  rw [bne, over15 w h]
  by_cases h : w ≤ 15
  · rw [decide_eq_true h, decide_eq_false (by omega)]; rfl
  · rw [decide_eq_false h, decide_eq_true (by omega)]; rfl
theorem bit_ne (w k : Nat) (q : Int) (hq : q = (k : Int)) (h : w ≤ 255) (hk : k ≤ 255) : (bits .and .u8 (w : Int) q != 0) = bitW w k := by
  rw [hq, bne, bit_eq w k h hk, Bool.not_not]
theorem bit1_eq (w : Nat) (h : w ≤ 255) : (bits .and .u8 (w : Int) 1 == 0) = !bitW w 1 := bit_eq w 1 h (by decide)
theorem bit2_eq (w : Nat) (h : w ≤ 255) : (bits .and .u8 (w : Int) 2 == 0) = !bitW w 2 := bit_eq w 2 h (by decide)
theorem bit4_eq (w : Nat) (h : w ≤ 255) : (bits .and .u8 (w : Int) 4 == 0) = !bitW w 4 := bit_eq w 4 h (by decide)
theorem bit8_eq (w : Nat) (h : w ≤ 255) : (bits .and .u8 (w : Int) 8 == 0) = !bitW w 8 := bit_eq w 8 h (by decide)
end Go.Proofs.YtihgmpebpkjmkaaGreatDoor

/-
  Spans and numbers compared and looked for by package slices, the table of a tally's words, and what tally.Word tells, over this seat's program.
-/
set_option linter.unusedVariables false
set_option linter.unusedSimpArgs false
namespace Go.Proofs.YtihgmpebpkjmkaaGreatDoor
open Go.RowKit Go.Proofs.Nst

set_option maxHeartbeats 400000 in
theorem equalS_len (a b : Option Addr) (n m c d : Nat) (w : World) (h : n ≠ m) :
    Calls Tryz.prog 60 #[.slice a n c, .slice b m d] w fun e w' => e = .returned (.bool false) ∧ Below w.heap.size w w' := by
  have hb : ((n : Int) == (m : Int)) = false := by simp; omega
  go_enter Tryz.func60, Tryz.ntmps60
  go_wp2
  go_ret
  exact ⟨rfl, Below.refl _ _⟩

set_option maxHeartbeats 1000000 in
set_option maxRecDepth 100000 in
theorem equalS_any (v v' : Value) (l r : List Sp) (w : World) (h : RowSp w v l) (h' : RowSp w v' r) :
    Calls Tryz.prog 60 #[v, v'] w fun e w' => e = .returned (.bool (decide (l = r))) ∧ Below w.heap.size w w' := by
  have HR := hide h
  have HR' := hide h'
  obtain ⟨a, cap, rfl, hl, hn, _⟩ := h
  obtain ⟨a', cap', rfl, hl', hn', _⟩ := h'
  by_cases hlr : l.length = r.length
  · have HLR := hide hlr
    rw [← hlr]
    rw [← hlr] at HR' hl'
    obtain ⟨T, hT⟩ : ∃ T, T = l.length := ⟨_, rfl⟩
    rw [← hT] at HR HR' hl ⊢
    have HTL := hide hT
    clear hT hlr hl' hn hn'
    go_enter Tryz.func60, Tryz.ntmps60
    go_wp2
    go_loopw [5, 13] (fun x z wr => ∃ k : Nat, z = .int .i64 k ∧ k ≤ T ∧ Hid (l.take k = r.take k) ∧ Hid (Below w.heap.size w wr)) (fun _ z _ => T - (intOf z).toNat)
    case atStart => exact ⟨0, rfl, Nat.zero_le _, hide rfl, hide (Below.refl _ _)⟩
    case round =>
      obtain ⟨k, rfl, hk, HT, HB⟩ := hrel
      by_cases hlt : k < T
      · have hlt1 : (k : Int) < (T : Int) := by omega
        have hkl : k < l.length := by have := unhide HTL; omega
        have hkr : k < r.length := by have := unhide HTL; have := unhide HLR; omega
        obtain ⟨b, off, cp, hv1, hblt, hcell⟩ := RowG.at cellsS_len ((unhide HR).below (unhide HB)) (j := k) hkl
        obtain ⟨b2, off2, cp2, hv2, hblt2, hcell2⟩ := RowG.at cellsS_len ((unhide HR').below (unhide HB)) (j := k) hkr
        injection hv1 with e1 e2 e3
        injection hv2 with e4 e5 e6
        subst e1 e4
        have c0 := hcell 0 (by omega)
        have d0 := hcell2 0 (by omega)
        have c1 := hcell 1 (by omega)
        have d1 := hcell2 1 (by omega)
        simp only [cellsS, List.getElem?_cons_zero, List.getElem?_cons_succ, Nat.add_zero] at c0 d0 c1 d1
        (try simp only [Nat.mul_one] at c0 d0 c1 d1)
        clear e2 e3 e5 e6 hcell hcell2
        have hnx := takeG_next hkl hkr
        by_cases he : l[k] = r[k]
        · have HN := hide (hnx.2 ⟨unhide HT, he⟩)
          have q0 : (((l[k]).1 : Int) == ((r[k]).1 : Int)) = true := by rw [he]; simp
          have q1 : (((l[k]).2 : Int) == ((r[k]).2 : Int)) = true := by rw [he]; simp
          clear hnx he HT
          generalize (l[k]).1 = x0 at c0 q0
          generalize (r[k]).1 = y0 at d0 q0
          generalize (l[k]).2 = x1 at c1 q1
          generalize (r[k]).2 = y1 at d1 q1
          go_wp2
          go_quiet (fail)
          go_wp2
          exact ⟨⟨k + 1, by go_num, by omega, HN, hide (below_dr (unhide HB) _)⟩, by simp [intOf]; omega⟩
        · have hfin : decide (l = r) = false := by
            rw [decide_eq_false_iff_not]
            intro h
            subst h
            exact he rfl
          have HF := hide hfin
          clear hfin hnx HT
          by_cases g0 : (l[k]).1 = (r[k]).1
          rotate_left
          · have q0 : (((l[k]).1 : Int) == ((r[k]).1 : Int)) = false := by simp; omega
            clear he g0
            generalize (l[k]).1 = x0 at c0 q0
            generalize (r[k]).1 = y0 at d0 q0
            generalize (l[k]).2 = x1 at c1
            generalize (r[k]).2 = y1 at d1
            go_wp2
            go_quiet (fail)
            go_wp2
            go_ret
            exact ⟨by rw [unhide HF]; rfl, below_dr (unhide HB) _⟩
          have g1 : ¬ (l[k]).2 = (r[k]).2 := fun g1 => he (Prod.ext g0 g1)
          have q0 : (((l[k]).1 : Int) == ((r[k]).1 : Int)) = true := by rw [g0]; simp
          have q1 : (((l[k]).2 : Int) == ((r[k]).2 : Int)) = false := by simp; omega
          clear he g0 g1
          generalize (l[k]).1 = x0 at c0 q0
          generalize (r[k]).1 = y0 at d0 q0
          generalize (l[k]).2 = x1 at c1 q1
          generalize (r[k]).2 = y1 at d1 q1
          go_wp2
          go_quiet (fail)
          go_wp2
          go_ret
          exact ⟨by rw [unhide HF]; rfl, below_dr (unhide HB) _⟩
      · have hlt1 : ¬ (k : Int) < (T : Int) := by omega
        have hfin : decide (l = r) = true := by
          rw [decide_eq_true_iff]
          have h1 := unhide HT
          have h2 := unhide HLR
          have h3 := unhide HTL
          rw [List.take_of_length_le (by omega), List.take_of_length_le (by omega)] at h1
          exact h1
        have HF := hide hfin
        clear hfin
        go_wp2
        go_ret
        exact ⟨by rw [unhide HF]; rfl, unhide HB⟩
  · have : decide (l = r) = false := by
      rw [decide_eq_false_iff_not]
      intro h
      exact hlr (by rw [h])
    rw [this]
    exact equalS_len a a' _ _ cap cap' w hlr
set_option maxHeartbeats 1000000 in
set_option maxRecDepth 100000 in
theorem sindex_any (v : Value) (ns : List Nat) (x : Nat) (w : World) (h : RowN w v ns) (hl : ns.length ≤ 1048576) :
    Calls Tryz.prog 35 #[v, .int .u32 (x : Int)] w fun e w' => (∃ i : Int, e = .returned (.int .i64 i) ∧ decide (i ≥ 0) = decide (x ∈ ns)) ∧ Below w.heap.size w w' := by
  have HR := hide h
  obtain ⟨a, cap, rfl, _, hfit, _⟩ := h
  obtain ⟨T, hT⟩ : ∃ T, T = ns.length := ⟨_, rfl⟩
  rw [← hT] at HR hl ⊢
  have HTL := hide hT
  clear hT hfit
  go_enter Tryz.func35, Tryz.ntmps35
  go_wp2
  go_loopw [5, 8] (fun y z wr => ∃ k : Nat, z = .int .i64 k ∧ k ≤ T ∧ Hid (∀ (j : Nat) (h : j < ns.length), j < k → x ≠ ns[j]) ∧ Hid (Below w.heap.size w wr)) (fun _ z _ => T - (intOf z).toNat)
  case atStart => exact ⟨0, rfl, Nat.zero_le _, hide (fun j h hj => by omega), hide (Below.refl _ _)⟩
  case round =>
    obtain ⟨k, rfl, hk, HA, HB⟩ := hrel
    by_cases hlt : k < T
    · have hlt1 : (k : Int) < (T : Int) := by omega
      have hkl : k < ns.length := by have := unhide HTL; omega
      obtain ⟨b, off, cp, hv1, hblt, hcell⟩ := RowG.at cellsN_len ((unhide HR).below (unhide HB)) (j := k) hkl
      injection hv1 with e1 e2 e3
      subst e1
      have c0 := hcell 0 (by omega)
      simp only [cellsN, List.getElem?_cons_zero, Nat.add_zero, Nat.mul_one] at c0
      clear e2 e3 hcell
      have hI1 := fun W => index_runN b off T cap k (k : Int) rfl (by omega) W
      by_cases he : x = ns[k]
      · have hq : ((x : Int) == (ns[k] : Int)) = true := by simp; omega
        have HF : Hid (decide ((k : Int) ≥ 0) = decide (x ∈ ns)) := hide (by rw [decide_eq_true (by omega), decide_eq_true (he ▸ List.getElem_mem hkl)])
        generalize ns[k] = y at c0 hq
        clear HA hk he hkl
        go_wp2
        go_ret
        exact ⟨⟨_, rfl, unhide HF⟩, unhide HB⟩
      · have hq : ((x : Int) == (ns[k] : Int)) = false := by simp; omega
        have HA9 : Hid (∀ (j : Nat) (h : j < ns.length), j < k + 1 → x ≠ ns[j]) := hide (by
          intro j h hj
          by_cases hjk : j = k
          · subst hjk; exact he
          · exact unhide HA j h (by omega))
        generalize ns[k] = y at c0 hq
        clear HA hk he
        go_wp2
        exact ⟨⟨k + 1, by go_num, by omega, HA9, HB⟩, by simp [intOf]; omega⟩
    · have hlt1 : ¬ (k : Int) < (T : Int) := by omega
      have HF : Hid (¬ x ∈ ns) := hide (by
        intro hm
        obtain ⟨j, hj, he⟩ := List.mem_iff_getElem.1 hm
        exact unhide HA j hj (by have := unhide HTL; omega) he.symm)
      clear HA
      go_wp2
      go_ret
      exact ⟨⟨-1, rfl, by have h := unhide HF; simp [h]⟩, unhide HB⟩

set_option maxHeartbeats 400000 in
theorem contains_any (v : Value) (ns : List Nat) (x : Nat) (w : World) (h : RowN w v ns) (hl : ns.length ≤ 1048576) :
    Calls Tryz.prog 15 #[v, .int .u32 (x : Int)] w fun e w' => e = .returned (.bool (decide (x ∈ ns))) ∧ Below w.heap.size w w' := by
  have HI := hide (sindex_any v ns x w h hl)
  clear h hl
  go_enter Tryz.func15, Tryz.ntmps15
  go_wp2_with fail
  refine (unhide HI).mono ?_
  rintro e w1 ⟨⟨i, rfl, hi⟩, hb⟩
  have HI2 := hide hi
  clear hi HI
  go_wp2
  go_ret
  exact ⟨by rw [← unhide HI2]; rfl, hb⟩

/-- The words' table lies in its variable. -/
structure WTab (w : World) : Prop where
  lt : 0 < w.heap.size
  at' : ∀ j v, wordsC[j]? = some v → w.cell? ⟨0, j, none⟩ = some v
theorem WTab.below {w w' : World} (h : WTab w) (hb : Below w.heap.size w w') : WTab w' := by
  have hz := hb.size
  have h5 := h.lt
  refine ⟨by omega, fun j v hj => ?_⟩
  rw [hb.cell (p := ⟨0, j, none⟩) (by show 0 < _; omega)]; exact h.at' j v hj
def wn (k : Nat) : ByteArray := bts (wordsT.getD k ([], 0)).1
def wb (k : Nat) : Nat := (wordsT.getD k ([], 0)).2
theorem wn_size (k : Nat) : (wn k).size ≤ 5 := by
  unfold wn
  rw [size_bts]
  rcases Nat.lt_or_ge k 4 with h | h
  · rcases (show k = 0 ∨ k = 1 ∨ k = 2 ∨ k = 3 by omega) with rfl | rfl | rfl | rfl <;> decide
  · rw [List.getD_eq_getElem?_getD, List.getElem?_eq_none (by simpa [wordsT] using h)]
    simp
theorem wb_lt (k : Nat) : wb k ≤ 8 := by
  unfold wb
  rcases Nat.lt_or_ge k 4 with h | h
  · rcases (show k = 0 ∨ k = 1 ∨ k = 2 ∨ k = 3 by omega) with rfl | rfl | rfl | rfl <;> decide
  · rw [List.getD_eq_getElem?_getD, List.getElem?_eq_none (by simpa [wordsT] using h)]
    simp
theorem drop_words {k : Nat} (h : k < 4) : wordsT.drop k = ((wn k).data.toList, wb k) :: wordsT.drop (k + 1) := by
  rw [List.drop_eq_getElem_cons (by simpa [wordsT] using h)]
  unfold wn wb
  rw [toList_bts, List.getD_eq_getElem?_getD, List.getElem?_eq_getElem (by simpa [wordsT] using h)]
  rfl
theorem take_words {k : Nat} (h : k < 4) : wordsT.take (k + 1) = wordsT.take k ++ [((wn k).data.toList, wb k)] := by
  rw [List.take_succ_eq_append_getElem (by simpa [wordsT] using h)]
  unfold wn wb
  rw [toList_bts, List.getD_eq_getElem?_getD, List.getElem?_eq_getElem (by simpa [wordsT] using h)]
  rfl
theorem index_words (k : Nat) (hk : k < 4) (w : World) : (Instr.index 62 (.agg wordsC.toArray) (.int .i64 k)).run Tryz.prog w = .ok (.agg #[.string (wn k), .int .u8 (wb k : Int)]) w := by
  rcases (show k = 0 ∨ k = 1 ∨ k = 2 ∨ k = 3 by omega) with rfl | rfl | rfl | rfl <;>
    simp [Instr.index, run_underlying Tryz.underlying62, asIntOf, part, Tryz.sizeOf61, Tryz.isAgg61, go_sem, wn, wb, wordsT, wordsC]
theorem words_size : (Tryz.prog.info? 62).map (·.size) = some wordsC.length := by kernel_rfl
theorem load_words {w : World} (h : WTab w) : (loadVar 62 ⟨0, 0, none⟩).run Tryz.prog w = .ok (.agg wordsC.toArray) w := by
  have hl := run_loadCells_list (P := Tryz.prog) w ⟨0, 0, none⟩ wordsC (fun j v hv => by
    have hadd : (⟨0, 0, none⟩ : Addr).add j = ⟨0, j, none⟩ := by unfold Addr.add; split <;> simp_all
    rw [hadd]
    exact h.at' j v hv)
  obtain ⟨i, hi, hs⟩ := Option.map_eq_some_iff.1 words_size
  simp [loadVar, Sem.run_bind, Tryz.isAgg62, sizeOf, typeInfo, hi, hs, hl]
/-- A whole variable read. -/
theorem wpList_load_var {P : Program} {ops : Array Oper} {rest : List Oper} {o : Oper} {a : Act} {w : World} {Q : Exit → Act → World → Prop} (hgd : o.guard = none) (ty : TypeId) (x : Operand) (ho : o.op = .load ty x)
    (p : Addr) (hx : a.eval x = .pointer (some p)) (v : Value) (hl : (loadVar ty p).run P w = .ok v w) (h : wpList P ops Q rest (a.put o.dst v) w) : wpList P ops Q (o :: rest) a w :=
  wpList_plain hgd fun _ hK => by
    unfold Oper.wp execOp
    simp only [ho, hx, Instr.loadAt, Instr.sureAddr, Sem.run_bind, Sem.run_pure, Result.andThen_ok, hl]
    exact hK _ _ h
end Go.Proofs.YtihgmpebpkjmkaaGreatDoor
