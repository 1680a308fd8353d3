/-
  What a box's calls answer at the boxes and changes that lives makes; over this seat's program.
-/
import Derived.Test.YtnhcpkcpgpobdaaDoorBsm
set_option linter.unusedVariables false
set_option linter.unusedSimpArgs false
namespace Go.Proofs.YtnhcpkcpgpobdaaDoor
open Go.RowKit

def xB : ByteArray := ⟨#[120]⟩
def yB : ByteArray := ⟨#[121]⟩
def eB : ByteArray := ⟨#[]⟩
def lm1 : Msg := ⟨1, 0, 0, 0, 0, xB⟩
def lm1d : Msg := ⟨1, 8, 0, 0, 0, xB⟩
def lm2 : Msg := ⟨2, 1, 0, 0, 0, yB⟩
def lb0 : Bx := ⟨9, 1, 0, 0, []⟩
def lb1 : Bx := ⟨9, 2, 0, 0, [lm1]⟩
def lb2 : Bx := ⟨9, 3, 0, 0, [lm1, lm2]⟩
def lb3 : Bx := ⟨9, 3, 0, 0, [lm1d, lm2]⟩
def lb4 : Bx := ⟨9, 3, 0, 0, [lm2]⟩
def lb5 : Bx := ⟨9, 3, 0, 2, [lm2]⟩
def lc1 : Chg := ⟨1, [], 0, 0, 0, 0, xB⟩
def lc2 : Chg := ⟨1, [], 1, 0, 0, 0, yB⟩
def lc3 : Chg := ⟨3, [1], 8, 0, 0, 0, eB⟩
def lc4 : Chg := ⟨5, [1, 2], 0, 0, 0, 0, eB⟩
def lc5 : Chg := ⟨6, [], 0, 0, 0, 0, eB⟩
def lc6 : Chg := ⟨2, [1], 0, 0, 0, 0, eB⟩
theorem lE1 : doB lb0 lc1 = lb1 ∧ doT lb0 lc1 = [1] ∧ doE lb0 lc1 = 0 := ⟨by kernel_rfl, by kernel_rfl, by kernel_rfl⟩
theorem lE2 : doB lb1 lc2 = lb2 ∧ doT lb1 lc2 = [2] ∧ doE lb1 lc2 = 0 := ⟨by kernel_rfl, by kernel_rfl, by kernel_rfl⟩
theorem lE3 : doB lb2 lc3 = lb3 ∧ doT lb2 lc3 = [1] ∧ doE lb2 lc3 = 0 := ⟨by kernel_rfl, by kernel_rfl, by kernel_rfl⟩
theorem lE4 : doB lb3 lc4 = lb4 ∧ doT lb3 lc4 = [1] ∧ doE lb3 lc4 = 0 := ⟨by kernel_rfl, by kernel_rfl, by kernel_rfl⟩
theorem lE5 : doB lb4 lc5 = lb5 ∧ doT lb4 lc5 = [] ∧ doE lb4 lc5 = 0 := ⟨by kernel_rfl, by kernel_rfl, by kernel_rfl⟩
theorem lE6 : doB lb5 lc6 = lb5 ∧ doT lb5 lc6 = [] ∧ doE lb5 lc6 = 3 := ⟨by kernel_rfl, by kernel_rfl, by kernel_rfl⟩
theorem lP : placeB lb4 2 = 1 ∧ whyB lb4 2 = 0 ∧ findB lb4 2 = lm2 := ⟨by kernel_rfl, by kernel_rfl, by kernel_rfl⟩
theorem lU : chkB lb4 = 0 ∧ aboveB 0 lb4 = [2] := ⟨by kernel_rfl, by kernel_rfl⟩
theorem lR : chkB lb5 = 0 ∧ aboveB 0 lb5 = [2] := ⟨by kernel_rfl, by kernel_rfl⟩
theorem lC : rightC ⟨0, [], 0, 0, 0, 0, eB⟩ = 2 := by kernel_rfl

/-- box.Do at a box and a change, with its answers named. -/
theorem bdo_lit (b : Bx) (c : Chg) (b' : Bx) (T : List Nat) (E : Nat) (he : doB b c = b' ∧ doT b c = T ∧ doE b c = E) (v vc : Value) (w : World) (ht : LTab w) (h : OutM w v b.ms) (hu : Row32 w vc c.us) (hf : FitB b) (hfc : FitC c) :
    Calls Tryd.prog 9 #[bxV b v, chV c vc] w fun e w' => (∃ a c1 a' c2, e = .returned (.tuple #[bxV b' (.slice a b'.ms.length c1), .slice a' T.length c2, .int .i64 (E : Int)]) ∧ OutM w' (.slice a b'.ms.length c1) b'.ms ∧ OutT w' (.slice a' T.length c2) T) ∧ Below w.heap.size w w' := by
  obtain ⟨rfl, rfl, rfl⟩ := he
  refine (bdo_any b c v vc w ht h.row hu hf hfc).mono ?_
  rintro e w' ⟨⟨v', u', rfl, h1, h2⟩, h3⟩
  obtain ⟨a, c1, rfl, _⟩ := own_sliceG h1.1
  obtain ⟨a', c2, rfl, _⟩ := own_sliceG h2.1
  exact ⟨⟨a, c1, a', c2, rfl, h1, h2⟩, h3⟩
theorem lfB {va nx mr la : Nat} {ms : List Msg} (h : va ≤ 9 ∧ nx ≤ 9 ∧ mr ≤ 9 ∧ la ≤ 9) : FitB ⟨va, nx, mr, la, ms⟩ := ⟨by show va ≤ _; omega, by show nx ≤ _; omega, by show mr ≤ _; omega, by show la ≤ _; omega⟩
theorem i64_zero : I64 0 := by unfold I64; omega
theorem lfC {kd fl : Nat} {us : List Nat} {raw : ByteArray} (h : kd ≤ 9 ∧ fl ≤ 9 ∧ raw.size ≤ 9) : FitC ⟨kd, us, fl, 0, 0, 0, raw⟩ := ⟨by show kd ≤ _; omega, by show fl ≤ _; omega, i64_zero, i64_zero, i64_zero, by show raw.size ≤ _; omega⟩
theorem live1 (v : Value) (w : World) (ht : LTab w) (h : OutM w v []) : Calls Tryd.prog 9 #[.agg #[.int .u32 9, .int .u64 1, .int .u32 0, .int .u32 0, v], .agg #[.int .u8 1, .slice none 0 0, .int .u8 0, .int .i64 0, .int .i64 0, .int .i64 0, .string ⟨#[120]⟩]] w fun e w' => (∃ a c1 a' c2, e = .returned (.tuple #[.agg #[.int .u32 9, .int .u64 2, .int .u32 0, .int .u32 0, .slice a 1 c1], .slice a' 1 c2, .int .i64 0]) ∧ OutM w' (.slice a 1 c1) [lm1] ∧ OutT w' (.slice a' 1 c2) [1]) ∧ Below w.heap.size w w' :=
  bdo_lit lb0 lc1 lb1 [1] 0 lE1 v (.slice none 0 0) w ht h (RowG.nil _ _ _) (lfB (by decide)) (lfC (by decide))
theorem live2 (v : Value) (w : World) (ht : LTab w) (h : OutM w v [lm1]) : Calls Tryd.prog 9 #[.agg #[.int .u32 9, .int .u64 2, .int .u32 0, .int .u32 0, v], .agg #[.int .u8 1, .slice none 0 0, .int .u8 1, .int .i64 0, .int .i64 0, .int .i64 0, .string ⟨#[121]⟩]] w fun e w' => (∃ a c1 a' c2, e = .returned (.tuple #[.agg #[.int .u32 9, .int .u64 3, .int .u32 0, .int .u32 0, .slice a 2 c1], .slice a' 1 c2, .int .i64 0]) ∧ OutM w' (.slice a 2 c1) [lm1, lm2] ∧ OutT w' (.slice a' 1 c2) [2]) ∧ Below w.heap.size w w' :=
  bdo_lit lb1 lc2 lb2 [2] 0 lE2 v (.slice none 0 0) w ht h (RowG.nil _ _ _) (lfB (by decide)) (lfC (by decide))
theorem live3 (v vc : Value) (w : World) (ht : LTab w) (h : OutM w v [lm1, lm2]) (hu : Row32 w vc [1]) : Calls Tryd.prog 9 #[.agg #[.int .u32 9, .int .u64 3, .int .u32 0, .int .u32 0, v], .agg #[.int .u8 3, vc, .int .u8 8, .int .i64 0, .int .i64 0, .int .i64 0, .string ⟨#[]⟩]] w fun e w' => (∃ a c1 a' c2, e = .returned (.tuple #[.agg #[.int .u32 9, .int .u64 3, .int .u32 0, .int .u32 0, .slice a 2 c1], .slice a' 1 c2, .int .i64 0]) ∧ OutM w' (.slice a 2 c1) [lm1d, lm2] ∧ OutT w' (.slice a' 1 c2) [1]) ∧ Below w.heap.size w w' :=
  bdo_lit lb2 lc3 lb3 [1] 0 lE3 v vc w ht h hu (lfB (by decide)) (lfC (by decide))
theorem live4 (v vc : Value) (w : World) (ht : LTab w) (h : OutM w v [lm1d, lm2]) (hu : Row32 w vc [1, 2]) : Calls Tryd.prog 9 #[.agg #[.int .u32 9, .int .u64 3, .int .u32 0, .int .u32 0, v], .agg #[.int .u8 5, vc, .int .u8 0, .int .i64 0, .int .i64 0, .int .i64 0, .string ⟨#[]⟩]] w fun e w' => (∃ a c1 a' c2, e = .returned (.tuple #[.agg #[.int .u32 9, .int .u64 3, .int .u32 0, .int .u32 0, .slice a 1 c1], .slice a' 1 c2, .int .i64 0]) ∧ OutM w' (.slice a 1 c1) [lm2] ∧ OutT w' (.slice a' 1 c2) [1]) ∧ Below w.heap.size w w' :=
  bdo_lit lb3 lc4 lb4 [1] 0 lE4 v vc w ht h hu (lfB (by decide)) (lfC (by decide))
theorem live5 (v : Value) (w : World) (ht : LTab w) (h : OutM w v [lm2]) : Calls Tryd.prog 9 #[.agg #[.int .u32 9, .int .u64 3, .int .u32 0, .int .u32 0, v], .agg #[.int .u8 6, .slice none 0 0, .int .u8 0, .int .i64 0, .int .i64 0, .int .i64 0, .string ⟨#[]⟩]] w fun e w' => (∃ a c1 a' c2, e = .returned (.tuple #[.agg #[.int .u32 9, .int .u64 3, .int .u32 0, .int .u32 2, .slice a 1 c1], .slice a' 0 c2, .int .i64 0]) ∧ OutM w' (.slice a 1 c1) [lm2] ∧ OutT w' (.slice a' 0 c2) []) ∧ Below w.heap.size w w' :=
  bdo_lit lb4 lc5 lb5 [] 0 lE5 v (.slice none 0 0) w ht h (RowG.nil _ _ _) (lfB (by decide)) (lfC (by decide))
theorem live6 (v vc : Value) (w : World) (ht : LTab w) (h : OutM w v [lm2]) (hu : Row32 w vc [1]) : Calls Tryd.prog 9 #[.agg #[.int .u32 9, .int .u64 3, .int .u32 0, .int .u32 2, v], .agg #[.int .u8 2, vc, .int .u8 0, .int .i64 0, .int .i64 0, .int .i64 0, .string ⟨#[]⟩]] w fun e w' => (∃ a c1 a' c2, e = .returned (.tuple #[.agg #[.int .u32 9, .int .u64 3, .int .u32 0, .int .u32 2, .slice a 1 c1], .slice a' 0 c2, .int .i64 3]) ∧ OutM w' (.slice a 1 c1) [lm2] ∧ OutT w' (.slice a' 0 c2) []) ∧ Below w.heap.size w w' :=
  bdo_lit lb5 lc6 lb5 [] 3 lE6 v vc w ht h hu (lfB (by decide)) (lfC (by decide))
theorem liveP (v : Value) (w : World) (ht : LTab w) (h : OutM w v [lm2]) : Calls Tryd.prog 24 #[.agg #[.int .u32 9, .int .u64 3, .int .u32 0, .int .u32 0, v], .int .u32 2] w fun e w' => e = .returned (.tuple #[.int .i64 1, .int .i64 0]) ∧ Below w.heap.size w w' := by
  have := place_any lb4 v 2 w ht h.row (lfB (by decide)) (by decide)
  rw [lP.1, lP.2.1] at this
  exact this
theorem liveF (v : Value) (w : World) (ht : LTab w) (h : OutM w v [lm2]) : Calls Tryd.prog 20 #[.agg #[.int .u32 9, .int .u64 3, .int .u32 0, .int .u32 0, v], .int .u32 2] w fun e w' => e = .returned (.tuple #[.agg #[.int .u32 2, .int .u8 1, .int .i64 0, .int .i64 0, .int .i64 0, .string ⟨#[121]⟩], .int .i64 0]) ∧ Below w.heap.size w w' := by
  have := bfind_any lb4 v 2 w ht h.row (lfB (by decide)) (by decide)
  rw [lP.2.1, lP.2.2] at this
  exact this
theorem liveU (v : Value) (w : World) (ht : LTab w) (h : OutM w v [lm2]) : Calls Tryd.prog 22 #[.agg #[.int .u32 9, .int .u64 3, .int .u32 0, .int .u32 0, v]] w fun e w' => (∃ a c, e = .returned (.tuple #[.slice a 1 c, .int .i64 0]) ∧ OutT w' (.slice a 1 c) [2]) ∧ Below w.heap.size w w' := by
  have := uids_any lb4 v w ht h.row (lfB (by decide))
  rw [lU.1, lU.2] at this
  refine this.mono ?_
  rintro e w' ⟨⟨v', rfl, h1⟩, h2⟩
  obtain ⟨a, c, rfl, _⟩ := own_sliceG h1.1
  exact ⟨⟨a, c, rfl, h1⟩, h2⟩
theorem liveR (v : Value) (w : World) (ht : LTab w) (h : OutM w v [lm2]) : Calls Tryd.prog 26 #[.agg #[.int .u32 9, .int .u64 3, .int .u32 0, .int .u32 2, v]] w fun e w' => (∃ a c, e = .returned (.tuple #[.slice a 1 c, .int .i64 0]) ∧ OutT w' (.slice a 1 c) [2]) ∧ Below w.heap.size w w' := by
  have := recent_any lb5 v w ht h.row (lfB (by decide))
  rw [lR.1, show lb5.mr = 0 from rfl, lR.2] at this
  refine this.mono ?_
  rintro e w' ⟨⟨v', rfl, h1⟩, h2⟩
  obtain ⟨a, c, rfl, _⟩ := own_sliceG h1.1
  exact ⟨⟨a, c, rfl, h1⟩, h2⟩
theorem liveC (v : Value) (w : World) (ht : LTab w) (h : OutM w v [lm2]) : Calls Tryd.prog 16 #[.agg #[.int .u32 9, .int .u64 3, .int .u32 0, .int .u32 2, v]] w fun e w' => e = .returned (.int .i64 0) ∧ Below w.heap.size w w' := by
  have := bcheck_any lb5 v w ht h.row (lfB (by decide))
  rw [lR.1] at this
  exact this
theorem liveG (w : World) (ht : LTab w) : Calls Tryd.prog 18 #[.agg #[.int .u8 0, .slice none 0 0, .int .u8 0, .int .i64 0, .int .i64 0, .int .i64 0, .string ⟨#[]⟩]] w fun e w' => e = .returned (.int .i64 2) ∧ Below w.heap.size w w' := by
  have := bright_any ⟨0, [], 0, 0, 0, 0, eB⟩ (.slice none 0 0) w ht (RowG.nil _ _ _) (lfC (by decide))
  rw [lC] at this
  exact this
theorem liveM9 (w : World) : Calls Tryd.prog 11 #[.int .u32 9] w fun e w' => e = .returned (.tuple #[.agg #[.int .u32 9, .int .u64 1, .int .u32 0, .int .u32 0, .slice none 0 0], .int .i64 0]) ∧ Below w.heap.size w w' := bmake_any 9 w
theorem liveM0 (w : World) : Calls Tryd.prog 11 #[.int .u32 0] w fun e w' => e = .returned (.tuple #[.agg #[.int .u32 0, .int .u64 0, .int .u32 0, .int .u32 0, .slice none 0 0], .int .i64 1]) ∧ Below w.heap.size w w' := bmake_any 0 w
theorem blk_five {w : World} {B t : Nat} {x0 x1 x2 x3 x4 : Value} (h : Blk w B t #[x0, x1, x2, x3, x4]) (u0 u1 u2 u3 u4 : Value) : Blk (((((w.setCell ⟨B, 0, none⟩ u0).setCell ⟨B, 1, none⟩ u1).setCell ⟨B, 2, none⟩ u2).setCell ⟨B, 3, none⟩ u3).setCell ⟨B, 4, none⟩ u4) B t #[u0, u1, u2, u3, u4] :=
  ((((h.set 0 u0).set 1 u1).set 2 u2).set 3 u3).set 4 u4
theorem lit32 (W : World) (l : List Nat) (cs : Array Value) (he : cs.toList = flatG cells32 l) (hl : cs.size = l.length) (hn : l.length ≤ 9) (hf : ∀ x ∈ l, x ≤ 4294967295) : Row32 (W.alloc (.cells cs 22)) (.slice (some ⟨W.heap.size, 0, none⟩) l.length l.length) l := by
  have h := World.ownsRow_lit (e := 22) (size := 1) W cs l.length (Nat.zero_le _) (by unfold maxLen; omega) (by omega)
  rw [he] at h
  exact rowG_of_own cells32_len h (by omega) hf
end Go.Proofs.YtnhcpkcpgpobdaaDoor
