/-
  What dict.readNumber (of what is none) and dict.readEntry do, over this seat's program.
-/
import Derived.Test.YtfjjigcghhohkaaDen
import Derived.Test.YtfjjigcghhohkaaRwg
set_option linter.unusedVariables false
namespace Go.Proofs.Ytfjjigcghhohkaa
open Go.RowKit Go.Proofs.Num Go.Proofs.Dct

/-- An entry in memory: its key and its data. -/
abbrev Ent := Nat × ByteArray
def cellsE (e : Ent) : List Value := [.int .u64 (e.1 : Int), .string e.2]
theorem cellsE_len (e : Ent) : (cellsE e).length = 2 := rfl
/-- An entry that is not whole yet: its key, its data, their size. -/
abbrev Ent3 := Nat × ByteArray × Nat
def cells3 (e : Ent3) : List Value := [.int .u64 (e.1 : Int), .string e.2.1, .int .u64 (e.2.2 : Int)]
theorem cells3_len (e : Ent3) : (cells3 e).length = 3 := rfl
theorem entInfo : (Try.prog.info? 44).map (fun i => (i.zero, i.size, i.bytes)) = some (some (.agg #[.int .u64 0, .string ByteArray.empty]), 2, 24) := by kernel_rfl
theorem ent3Info : (Try.prog.info? 82).map (fun i => (i.zero, i.size, i.bytes)) = some (some (.agg #[.int .u64 0, .string ByteArray.empty, .int .u64 0]), 3, 32) := by kernel_rfl
theorem u64Info : (Try.prog.info? 42).map (fun i => (i.zero, i.size, i.bytes)) = some (some (.int .u64 0), 1, 8) := by kernel_rfl

set_option maxHeartbeats 400000 in
set_option maxRecDepth 100000 in
theorem rdn_no (s : ByteArray) (p c : Nat) (w : World) (hs : s.size ≤ 140737488355328) (hp : p ≤ s.size) (h : scanL (s.data.toList.drop p) = (0, 0, c)) (hc : c ≠ 0) :
    Calls Try.prog 52 #[.string s, .int .i64 p] w fun e w' => e = .returned (.tuple #[.int .u64 0, .int .i64 0, .int .i64 c]) ∧ Below w.heap.size w w' := by
  have hg := fun W => get_any (s.extract p (min s.size (p + 10))) W (by rw [size_part _ _ _ (by omega)]; omega)
  rw [scan_piece, h] at hg
  generalize restOf (s.extract p (min s.size (p + 10))) = R at hg
  have HG := hide hg
  have hsl := slice_km s p (min s.size (p + 10) - p) (by omega)
  rw [show p + (min s.size (p + 10) - p) = min s.size (p + 10) by omega] at hsl
  have hmm : (p : Int) + ((min s.size (p + 10) - p : Nat) : Int) = min (s.size : Int) ((p : Int) + 10) := by omega
  rw [hmm] at hsl
  have hne : ((c : Int) == 0) = false := by simp; omega
  have hpi : (p : Int) ≤ 140737488355328 := by omega
  clear hg h hmm hc
  go_enter Try.func52, Try.ntmps52
  go_wp2_with fail
  refine (unhide HG _).mono ?_
  rintro e w1 ⟨rfl, hb1⟩
  have HB := hide hb1
  clear hb1
  go_wp2
  go_ret3
  exact ⟨by simp, unhide HB⟩

/-- The least key that rises behind some entries. -/
def leastK (l : List Ent3) : Nat := match l.getLast? with
  | none => 0
  | some e => e.1 + 1
theorem leastK_last {l : List Ent3} (h : 0 < l.length) : leastK l = (l[l.length - 1]).1 + 1 := by
  unfold leastK
  rw [List.getLast?_eq_getElem?, List.getElem?_eq_getElem (by omega)]
theorem leastK_nil : leastK [] = 0 := rfl
theorem leastK_snoc (l : List Ent3) (e : Ent3) : leastK (l ++ [e]) = e.1 + 1 := by simp [leastK]

set_option maxHeartbeats 1000000 in
set_option maxRecDepth 100000 in
theorem rde_err1 (s : ByteArray) (p m k n k2 c : Nat) (v : Value) (l : List Ent3) (B : Nat) (w : World) (hs : s.size ≤ 140737488355328) (hp : p ≤ s.size) (hown : w.ownsRow B 82 3 v l.length (flatG cells3 l)) (hll : l.length ≤ 65536) (hle : leastK l ≤ 18446744073709551616)
    (h : scanL (s.data.toList.drop p) = (0, 0, c)) (hc : c ≠ 0) :
    Calls Try.prog 53 #[.string s, .int .i64 p, v] w fun e w' => e = .returned (.tuple #[.agg #[.int .u64 0, .string ByteArray.empty, .int .u64 0], .int .i64 0, .int .i64 c]) ∧ Below w.heap.size w w' := by
  obtain ⟨a, cap, hv, hcap⟩ := own_sliceG hown
  have HR := hide (fun W => rdn_no s p c W hs hp h hc)
  have hne : ((c : Int) == 0) = false := by simp; omega
  have HW := hide (Blk.new w 82 #[.int .u64 0, .string ByteArray.empty, .int .u64 0])
  subst hv
  clear h hc hown hle
  go_enter Try.func53, Try.ntmps53
  go_wp2_with fail
  refine (unhide HR _).mono ?_
  rintro e w1 ⟨rfl, hb1⟩
  have HB1 := hide (belows' ((Below.refl w.heap.size w).alloc (Nat.le_refl _) _) hb1)
  have HW1 := hide ((unhide HW).below hb1)
  clear hb1 HW
  have f0 : w1.frozen? ⟨w.heap.size, 0, none⟩ = false := Blk.frozen (unhide HW1) 0
  have f1 : w1.frozen? ⟨w.heap.size, 1, none⟩ = false := Blk.frozen (unhide HW1) 1
  have f2 : w1.frozen? ⟨w.heap.size, 2, none⟩ = false := Blk.frozen (unhide HW1) 2
  have q0 : w1.cell? ⟨w.heap.size, 0, none⟩ = some (.int .u64 0) := Blk.cell (unhide HW1) 0
  have q1 : w1.cell? ⟨w.heap.size, 1, none⟩ = some (.string ByteArray.empty) := Blk.cell (unhide HW1) 1
  have q2 : w1.cell? ⟨w.heap.size, 2, none⟩ = some (.int .u64 0) := Blk.cell (unhide HW1) 2
  go_wp2
  (try simp only [Exit.inBlock, Exit.then])
  refine bodyPost_ret (v := .tuple #[.agg #[.int .u64 0, .string ByteArray.empty, .int .u64 0], .int .i64 0, .int .i64 (c : Int)]) ?_ rfl ⟨by first | rfl | (congr 1; simp; try omega), (((unhide HB1).setCell (p := ⟨w.heap.size, 0, none⟩) (Nat.le_refl _) _).setCell (p := ⟨w.heap.size, 1, none⟩) (Nat.le_refl _) _).setCell (p := ⟨w.heap.size, 2, none⟩) (Nat.le_refl _) _⟩
  rw [results_cell_tmp2 rfl]
  go_simp
  rfl

set_option maxHeartbeats 1000000 in
set_option maxRecDepth 100000 in
theorem rde_code (s : ByteArray) (p m k n k2 c : Nat) (v : Value) (l : List Ent3) (B : Nat) (w : World) (hs : s.size ≤ 140737488355328) (hp : p ≤ s.size) (hown : w.ownsRow B 82 3 v l.length (flatG cells3 l)) (hll : l.length ≤ 65536) (hle : leastK l ≤ 18446744073709551616)
    (h : scanL (s.data.toList.drop p) = (m, k, 0)) (hb : 18446744073709551615 < leastK l + m) :
    Calls Try.prog 53 #[.string s, .int .i64 p, v] w fun e w' => e = .returned (.tuple #[.agg #[.int .u64 0, .string ByteArray.empty, .int .u64 0], .int .i64 0, .int .i64 7]) ∧ Below w.heap.size w w' := by
  obtain ⟨a, cap, hv, hcap⟩ := own_sliceG hown
  have HR := hide (fun W => rdn_ok s p m k W hs hp h)
  have hml := (scanL_ok h).2.2.1
  have h0 : 0 < l.length := by
    rcases Nat.eq_zero_or_pos l.length with h0 | h0
    · have hl0 : l = [] := List.eq_nil_of_length_eq_zero h0
      subst hl0
      rw [leastK_nil] at hb
      omega
    · exact h0
  clear h
  obtain ⟨g, cap', hv', hBg, hglt, hcell, _⟩ := ownG_at cells3_len hown (j := l.length - 1) (by omega)
  have hc0 := hcell 0 (by omega)
  rw [leastK_last h0] at hb hle
  simp only [cells3, List.getElem?_cons_zero, Nat.add_zero] at hc0
  generalize (l[l.length - 1]).1 = x at hc0 hb hle
  subst hv
  injection hv' with e1 e2 e3
  subst e1
  clear hown hcell e2 e3
  generalize l.length = L at *
  have hx : (x : Int) ≤ 18446744073709551615 := by omega
  have HW := hide (Blk.new w 82 #[.int .u64 0, .string ByteArray.empty, .int .u64 0])
  have hL1 : (0 : Int) < (L : Int) := by omega
  have hLs : ((L - 1 : Nat) : Int) = (L : Int) - 1 := by omega
  have hbi : 18446744073709551615 - (x : Int) ≤ (m : Int) := by omega
  clear hb
  go_enter Try.func53, Try.ntmps53
  go_wp2_with fail
  refine (unhide HR _).mono ?_
  rintro e w1 ⟨rfl, hb1⟩
  have c1 : w1.cell? ⟨g, (L - 1) * 3, none⟩ = some (.int .u64 (x : Int)) := by
    rw [hb1.cell (p := ⟨g, (L - 1) * 3, none⟩) (by simp; omega)]
    rw [Below.cell ((Below.refl w.heap.size w).alloc (Nat.le_refl _) _) (p := ⟨g, (L - 1) * 3, none⟩) hglt]
    exact hc0
  have HB1 := hide (belows' ((Below.refl w.heap.size w).alloc (Nat.le_refl _) _) hb1)
  have HW1 := hide ((unhide HW).below hb1)
  clear hb1 hc0 HW
  have f0 : w1.frozen? ⟨w.heap.size, 0, none⟩ = false := Blk.frozen (unhide HW1) 0
  have f1 : w1.frozen? ⟨w.heap.size, 1, none⟩ = false := Blk.frozen (unhide HW1) 1
  have f2 : w1.frozen? ⟨w.heap.size, 2, none⟩ = false := Blk.frozen (unhide HW1) 2
  have q0 : w1.cell? ⟨w.heap.size, 0, none⟩ = some (.int .u64 0) := Blk.cell (unhide HW1) 0
  have q1 : w1.cell? ⟨w.heap.size, 1, none⟩ = some (.string ByteArray.empty) := Blk.cell (unhide HW1) 1
  have q2 : w1.cell? ⟨w.heap.size, 2, none⟩ = some (.int .u64 0) := Blk.cell (unhide HW1) 2
  go_wp2
  (try simp only [Exit.inBlock, Exit.then])
  refine bodyPost_ret (v := .tuple #[.agg #[.int .u64 0, .string ByteArray.empty, .int .u64 0], .int .i64 0, .int .i64 7]) ?_ rfl ⟨by first | rfl | (congr 1; simp; try omega), (((unhide HB1).setCell (p := ⟨w.heap.size, 0, none⟩) (Nat.le_refl _) _).setCell (p := ⟨w.heap.size, 1, none⟩) (Nat.le_refl _) _).setCell (p := ⟨w.heap.size, 2, none⟩) (Nat.le_refl _) _⟩
  rw [results_cell_tmp2 rfl]
  go_simp
  rfl

set_option maxHeartbeats 1000000 in
set_option maxRecDepth 100000 in
theorem rde_err2 (s : ByteArray) (p m k n k2 c : Nat) (v : Value) (l : List Ent3) (B : Nat) (w : World) (hs : s.size ≤ 140737488355328) (hp : p ≤ s.size) (hown : w.ownsRow B 82 3 v l.length (flatG cells3 l)) (hll : l.length ≤ 65536) (hle : leastK l ≤ 18446744073709551616)
    (h : scanL (s.data.toList.drop p) = (m, k, 0)) (hb : ¬ 18446744073709551615 < leastK l + m) (h2 : scanL (s.data.toList.drop (p + k)) = (0, 0, c)) (hc : c ≠ 0) :
    Calls Try.prog 53 #[.string s, .int .i64 p, v] w fun e w' => e = .returned (.tuple #[.agg #[.int .u64 0, .string ByteArray.empty, .int .u64 0], .int .i64 0, .int .i64 c]) ∧ Below w.heap.size w w' := by
  obtain ⟨a, cap, hv, hcap⟩ := own_sliceG hown
  have hd := drop_scan h
  rw [sizeL] at hd
  have HR := hide (fun W => rdn_ok s p m k W hs hp h)
  have HR2 := hide (fun W => rdn_no s (p + k) c W hs hd.2.2.1 h2 hc)
  have hne : ((c : Int) == 0) = false := by simp; omega
  have hml : (m : Int) ≤ 18446744073709551615 := by have := hd.2.1; omega
  clear h h2 hd
  by_cases h0 : 0 < l.length
  · obtain ⟨g, cap', hv', hBg, hglt, hcell, _⟩ := ownG_at cells3_len hown (j := l.length - 1) (by omega)
    have hc0 := hcell 0 (by omega)
    rw [leastK_last h0] at hb hle
    simp only [cells3, List.getElem?_cons_zero, Nat.add_zero] at hc0
    generalize (l[l.length - 1]).1 = x at hc0 hb hle
    subst hv
    injection hv' with e1 e2 e3
    subst e1
    clear hown hcell e2 e3
    generalize l.length = L at *
    have hx : (x : Int) ≤ 18446744073709551615 := by omega
    have HW := hide (Blk.new w 82 #[.int .u64 0, .string ByteArray.empty, .int .u64 0])
    have hL1 : (0 : Int) < (L : Int) := by omega
    have hLs : ((L - 1 : Nat) : Int) = (L : Int) - 1 := by omega
    have hbi : ¬ (18446744073709551615 - (x : Int) ≤ (m : Int)) := by omega
    clear hb
    go_enter Try.func53, Try.ntmps53
    go_wp2_with fail
    refine (unhide HR _).mono ?_
    rintro e w1 ⟨rfl, hb1⟩
    have c1 : w1.cell? ⟨g, (L - 1) * 3, none⟩ = some (.int .u64 (x : Int)) := by
      rw [hb1.cell (p := ⟨g, (L - 1) * 3, none⟩) (by simp; omega)]
      rw [Below.cell ((Below.refl w.heap.size w).alloc (Nat.le_refl _) _) (p := ⟨g, (L - 1) * 3, none⟩) hglt]
      exact hc0
    have HB1 := hide (belows' ((Below.refl w.heap.size w).alloc (Nat.le_refl _) _) hb1)
    have HW1 := hide ((unhide HW).below hb1)
    clear hb1 hc0 HW
    go_wp2_with fail
    refine (unhide HR2 _).mono ?_
    rintro e w2 ⟨rfl, hb2⟩
    have HB2 := hide (belows' (unhide HB1) hb2)
    have HW2 := hide ((unhide HW1).below hb2)
    clear hb2 HB1 HW1
    have f0 : w2.frozen? ⟨w.heap.size, 0, none⟩ = false := Blk.frozen (unhide HW2) 0
    have f1 : w2.frozen? ⟨w.heap.size, 1, none⟩ = false := Blk.frozen (unhide HW2) 1
    have f2 : w2.frozen? ⟨w.heap.size, 2, none⟩ = false := Blk.frozen (unhide HW2) 2
    have q0 : w2.cell? ⟨w.heap.size, 0, none⟩ = some (.int .u64 0) := Blk.cell (unhide HW2) 0
    have q1 : w2.cell? ⟨w.heap.size, 1, none⟩ = some (.string ByteArray.empty) := Blk.cell (unhide HW2) 1
    have q2 : w2.cell? ⟨w.heap.size, 2, none⟩ = some (.int .u64 0) := Blk.cell (unhide HW2) 2
    go_wp2
    (try simp only [Exit.inBlock, Exit.then])
    refine bodyPost_ret (v := .tuple #[.agg #[.int .u64 0, .string ByteArray.empty, .int .u64 0], .int .i64 0, .int .i64 (c : Int)]) ?_ rfl ⟨by first | rfl | (congr 1; simp; try omega), (((unhide HB2).setCell (p := ⟨w.heap.size, 0, none⟩) (Nat.le_refl _) _).setCell (p := ⟨w.heap.size, 1, none⟩) (Nat.le_refl _) _).setCell (p := ⟨w.heap.size, 2, none⟩) (Nat.le_refl _) _⟩
    rw [results_cell_tmp2 rfl]
    go_simp
    rfl
  · have hl0 : l = [] := List.eq_nil_of_length_eq_zero (by omega)
    subst hl0
    rw [leastK_nil] at hb hle
    subst hv
    simp only [List.length_nil] at *
    have HW := hide (Blk.new w 82 #[.int .u64 0, .string ByteArray.empty, .int .u64 0])
    clear hown h0
    go_enter Try.func53, Try.ntmps53
    go_wp2_with fail
    refine (unhide HR _).mono ?_
    rintro e w1 ⟨rfl, hb1⟩
    have HB1 := hide (belows' ((Below.refl w.heap.size w).alloc (Nat.le_refl _) _) hb1)
    have HW1 := hide ((unhide HW).below hb1)
    clear hb1 HW
    go_wp2_with fail
    refine (unhide HR2 _).mono ?_
    rintro e w2 ⟨rfl, hb2⟩
    have HB2 := hide (belows' (unhide HB1) hb2)
    have HW2 := hide ((unhide HW1).below hb2)
    clear hb2 HB1 HW1
    have f0 : w2.frozen? ⟨w.heap.size, 0, none⟩ = false := Blk.frozen (unhide HW2) 0
    have f1 : w2.frozen? ⟨w.heap.size, 1, none⟩ = false := Blk.frozen (unhide HW2) 1
    have f2 : w2.frozen? ⟨w.heap.size, 2, none⟩ = false := Blk.frozen (unhide HW2) 2
    have q0 : w2.cell? ⟨w.heap.size, 0, none⟩ = some (.int .u64 0) := Blk.cell (unhide HW2) 0
    have q1 : w2.cell? ⟨w.heap.size, 1, none⟩ = some (.string ByteArray.empty) := Blk.cell (unhide HW2) 1
    have q2 : w2.cell? ⟨w.heap.size, 2, none⟩ = some (.int .u64 0) := Blk.cell (unhide HW2) 2
    go_wp2
    (try simp only [Exit.inBlock, Exit.then])
    refine bodyPost_ret (v := .tuple #[.agg #[.int .u64 0, .string ByteArray.empty, .int .u64 0], .int .i64 0, .int .i64 (c : Int)]) ?_ rfl ⟨by first | rfl | (congr 1; simp; try omega), (((unhide HB2).setCell (p := ⟨w.heap.size, 0, none⟩) (Nat.le_refl _) _).setCell (p := ⟨w.heap.size, 1, none⟩) (Nat.le_refl _) _).setCell (p := ⟨w.heap.size, 2, none⟩) (Nat.le_refl _) _⟩
    rw [results_cell_tmp2 rfl]
    go_simp
    rfl

set_option maxHeartbeats 1000000 in
set_option maxRecDepth 100000 in
theorem rde_ok (s : ByteArray) (p m k n k2 c : Nat) (v : Value) (l : List Ent3) (B : Nat) (w : World) (hs : s.size ≤ 140737488355328) (hp : p ≤ s.size) (hown : w.ownsRow B 82 3 v l.length (flatG cells3 l)) (hll : l.length ≤ 65536) (hle : leastK l ≤ 18446744073709551616)
    (h : scanL (s.data.toList.drop p) = (m, k, 0)) (hb : ¬ 18446744073709551615 < leastK l + m) (h2 : scanL (s.data.toList.drop (p + k)) = (n, k2, 0)) :
    Calls Try.prog 53 #[.string s, .int .i64 p, v] w fun e w' => e = .returned (.tuple #[.agg #[.int .u64 ((leastK l + m : Nat) : Int), .string ByteArray.empty, .int .u64 n], .int .i64 ((p + k + k2 : Nat) : Int), .int .i64 0]) ∧ Below w.heap.size w w' := by
  obtain ⟨a, cap, hv, hcap⟩ := own_sliceG hown
  have hd := drop_scan h
  rw [sizeL] at hd
  have HR := hide (fun W => rdn_ok s p m k W hs hp h)
  have HR2 := hide (fun W => rdn_ok s (p + k) n k2 W hs hd.2.2.1 h2)
  have hml : (m : Int) ≤ 18446744073709551615 := by have := hd.2.1; omega
  clear h h2 hd
  by_cases h0 : 0 < l.length
  · obtain ⟨g, cap', hv', hBg, hglt, hcell, _⟩ := ownG_at cells3_len hown (j := l.length - 1) (by omega)
    have hc0 := hcell 0 (by omega)
    rw [leastK_last h0] at hb hle ⊢
    simp only [cells3, List.getElem?_cons_zero, Nat.add_zero] at hc0
    generalize (l[l.length - 1]).1 = x at hc0 hb hle ⊢
    subst hv
    injection hv' with e1 e2 e3
    subst e1
    clear hown hcell e2 e3
    generalize l.length = L at *
    have hx : (x : Int) ≤ 18446744073709551615 := by omega
    have HW := hide (Blk.new w 82 #[.int .u64 0, .string ByteArray.empty, .int .u64 0])
    have hL1 : (0 : Int) < (L : Int) := by omega
    have hLs : ((L - 1 : Nat) : Int) = (L : Int) - 1 := by omega
    have hbi : ¬ (18446744073709551615 - (x : Int) ≤ (m : Int)) := by omega
    clear hb
    go_enter Try.func53, Try.ntmps53
    go_wp2_with fail
    refine (unhide HR _).mono ?_
    rintro e w1 ⟨rfl, hb1⟩
    have c1 : w1.cell? ⟨g, (L - 1) * 3, none⟩ = some (.int .u64 (x : Int)) := by
      rw [hb1.cell (p := ⟨g, (L - 1) * 3, none⟩) (by simp; omega)]
      rw [Below.cell ((Below.refl w.heap.size w).alloc (Nat.le_refl _) _) (p := ⟨g, (L - 1) * 3, none⟩) hglt]
      exact hc0
    have HB1 := hide (belows' ((Below.refl w.heap.size w).alloc (Nat.le_refl _) _) hb1)
    have HW1 := hide ((unhide HW).below hb1)
    clear hb1 hc0 HW
    go_wp2_with fail
    refine (unhide HR2 _).mono ?_
    rintro e w2 ⟨rfl, hb2⟩
    have HB2 := hide (belows' (unhide HB1) hb2)
    have HW2 := hide ((unhide HW1).below hb2)
    clear hb2 HB1 HW1
    have f0 : w2.frozen? ⟨w.heap.size, 0, none⟩ = false := Blk.frozen (unhide HW2) 0
    have f1 : w2.frozen? ⟨w.heap.size, 1, none⟩ = false := Blk.frozen (unhide HW2) 1
    have f2 : w2.frozen? ⟨w.heap.size, 2, none⟩ = false := Blk.frozen (unhide HW2) 2
    have q0 : w2.cell? ⟨w.heap.size, 0, none⟩ = some (.int .u64 0) := Blk.cell (unhide HW2) 0
    have q1 : w2.cell? ⟨w.heap.size, 1, none⟩ = some (.string ByteArray.empty) := Blk.cell (unhide HW2) 1
    have q2 : w2.cell? ⟨w.heap.size, 2, none⟩ = some (.int .u64 0) := Blk.cell (unhide HW2) 2
    go_wp2
    (try simp only [Exit.inBlock, Exit.then])
    refine bodyPost_ret (v := .tuple #[.agg #[.int .u64 (((x : Int) + 1) + (m : Int)), .string ByteArray.empty, .int .u64 (n : Int)], .int .i64 ((p + k + k2 : Nat) : Int), .int .i64 0]) ?_ rfl ⟨by first | rfl | (congr 1; simp; try omega), (((unhide HB2).setCell (p := ⟨w.heap.size, 0, none⟩) (Nat.le_refl _) _).setCell (p := ⟨w.heap.size, 1, none⟩) (Nat.le_refl _) _).setCell (p := ⟨w.heap.size, 2, none⟩) (Nat.le_refl _) _⟩
    rw [results_cell_tmp2 rfl]
    go_simp
    rfl
  · have hl0 : l = [] := List.eq_nil_of_length_eq_zero (by omega)
    subst hl0
    rw [leastK_nil] at hb hle ⊢
    subst hv
    simp only [List.length_nil] at *
    have HW := hide (Blk.new w 82 #[.int .u64 0, .string ByteArray.empty, .int .u64 0])
    clear hown h0
    go_enter Try.func53, Try.ntmps53
    go_wp2_with fail
    refine (unhide HR _).mono ?_
    rintro e w1 ⟨rfl, hb1⟩
    have HB1 := hide (belows' ((Below.refl w.heap.size w).alloc (Nat.le_refl _) _) hb1)
    have HW1 := hide ((unhide HW).below hb1)
    clear hb1 HW
    go_wp2_with fail
    refine (unhide HR2 _).mono ?_
    rintro e w2 ⟨rfl, hb2⟩
    have HB2 := hide (belows' (unhide HB1) hb2)
    have HW2 := hide ((unhide HW1).below hb2)
    clear hb2 HB1 HW1
    have f0 : w2.frozen? ⟨w.heap.size, 0, none⟩ = false := Blk.frozen (unhide HW2) 0
    have f1 : w2.frozen? ⟨w.heap.size, 1, none⟩ = false := Blk.frozen (unhide HW2) 1
    have f2 : w2.frozen? ⟨w.heap.size, 2, none⟩ = false := Blk.frozen (unhide HW2) 2
    have q0 : w2.cell? ⟨w.heap.size, 0, none⟩ = some (.int .u64 0) := Blk.cell (unhide HW2) 0
    have q1 : w2.cell? ⟨w.heap.size, 1, none⟩ = some (.string ByteArray.empty) := Blk.cell (unhide HW2) 1
    have q2 : w2.cell? ⟨w.heap.size, 2, none⟩ = some (.int .u64 0) := Blk.cell (unhide HW2) 2
    go_wp2
    (try simp only [Exit.inBlock, Exit.then])
    refine bodyPost_ret (v := .tuple #[.agg #[.int .u64 (m : Int), .string ByteArray.empty, .int .u64 (n : Int)], .int .i64 ((p + k + k2 : Nat) : Int), .int .i64 0]) ?_ rfl ⟨by first | rfl | (congr 1; simp; try omega), (((unhide HB2).setCell (p := ⟨w.heap.size, 0, none⟩) (Nat.le_refl _) _).setCell (p := ⟨w.heap.size, 1, none⟩) (Nat.le_refl _) _).setCell (p := ⟨w.heap.size, 2, none⟩) (Nat.le_refl _) _⟩
    rw [results_cell_tmp2 rfl]
    go_simp
    rfl

end Go.Proofs.Ytfjjigcghhohkaa
