/-
  What missiveref28.token does with a bracket, and with nothing; what serves for its other ways; over this seat's program.
-/
import Derived.Test.YtafegjbhaofgiaaDoorLyc
import Derived.Test.YtafegjbhaofgiaaDoorLxw
import Derived.Test.YtafegjbhaofgiaaDoorApg
import Derived.Deep.Cut
set_option linter.unusedVariables false
set_option linter.unusedSimpArgs false
namespace Go.Proofs.YtafegjbhaofgiaaDoor
open Go.RowKit Go.Proofs.Lx

/-- What the document's token tells: the token, what is behind it, and that there is one. -/
def RefTV (D : List UInt8) (v : Value) : Prop := match tokA D with
  | some p => v = .tuple #[tkV p.1, .string (bts (D.drop p.2)), .bool true]
  | none => ∃ k x y, v = .tuple #[.agg #[.int .u8 k, .string x], .string y, .bool false]
theorem refTV_some {D : List UInt8} {t : Tok} {z : Nat} {v : Value} (h : tokA D = some (t, z)) (hv : v = .tuple #[tkV t, .string (bts (D.drop z)), .bool true]) : RefTV D v := by
  unfold RefTV; rw [h]; exact hv
theorem refTV_none {D : List UInt8} {v : Value} (h : tokA D = none) (hv : ∃ k x y, v = .tuple #[.agg #[.int .u8 k, .string x], .string y, .bool false]) : RefTV D v := by
  unfold RefTV; rw [h]; exact hv
/-- The box of the answer. -/
structure OneT (w W : World) : Prop where
  bel : Below w.heap.size w W
  k0 : Blk W w.heap.size 39 zTok
theorem OneT.new (w : World) : OneT w (w.alloc (.cells zTok 39)) := ⟨(Below.refl _ w).alloc (Nat.le_refl _) _, Blk.new w _ _⟩
theorem OneT.below {w W W' : World} (h : OneT w W) (hb : Below W.heap.size W W') : OneT w W' := ⟨h.bel.trans (hb.mono h.bel.size), h.k0.below hb⟩
theorem OneT.fin {w W : World} (h : OneT w W) (u0 u1 : Value) : Below w.heap.size w ((W.setCell ⟨w.heap.size, 0, none⟩ u0).setCell ⟨w.heap.size, 1, none⟩ u1) := below2 h.bel (Nat.le_refl _) _ _
theorem OneT.fin' {w W : World} (h : OneT w W) (u0 u1 : Value) : Below w.heap.size w ((W.drew.setCell ⟨w.heap.size, 0, none⟩ u0).setCell ⟨w.heap.size, 1, none⟩ u1) := below2 (W := W.drew) ⟨h.bel.os, h.bel.tape, h.bel.output, h.bel.size, h.bel.block⟩ (Nat.le_refl _) _ _
theorem ne_byte {a b : UInt8} {n : Int} (h : ¬ a = b) (hn : (b.toNat : Int) = n) : ((a.toNat : Int) == n) = false := by
  rw [beq_eq_false_iff_ne]; intro h'
  exact h (UInt8.toNat_inj.1 (by omega))

set_option maxHeartbeats 1000000 in
set_option maxRecDepth 100000 in
theorem refTok_empty (s : ByteArray) (w : World) (h0 : s.size = 0) :
    Calls Tryd.prog 31 #[.string s] w fun e w' => (∃ v, e = .returned v ∧ RefTV s.data.toList v) ∧ Below w.heap.size w w' := by
  have he : s.toList.isEmpty = true := by rw [is_empty]; exact decide_eq_true h0
  have HF : Hid (tokA s.data.toList = none) := hide (by
    have : s.data.toList = [] := List.length_eq_zero_iff.1 (by rw [sizeL]; exact h0)
    rw [this]; rfl)
  have HT0 := hide (OneT.new w)
  clear h0
  go_enter Tryd.func31, Tryd.ntmps31
  go_upto_region 1 with (fail)
  rw [show World.alloc w (.cells #[.int .u8 0, .string ⟨#[]⟩] 39) = w.alloc (.cells zTok 39) from rfl]
  generalize w.alloc (.cells zTok 39) = W at HT0 ⊢
  have c00 := (unhide HT0).k0.cell 0
  have c01 := (unhide HT0).k0.cell 1
  have f00 := (unhide HT0).k0.frozen 0
  have f01 := (unhide HT0).k0.frozen 1
  simp only [zTok, List.getElem?_toArray, List.getElem?_cons_succ, List.getElem?_cons_zero] at c00 c01
  go_wp2
  (try simp only [Exit.inBlock, Exit.then])
  refine bodyPost_ret (v := .tuple #[.agg #[.int .u8 0, .string ⟨#[]⟩], .string ⟨#[]⟩, .bool false]) ?_ rfl ⟨⟨_, rfl, refTV_none (unhide HF) ⟨_, _, _, rfl⟩⟩, (unhide HT0).fin _ _⟩
  rw [results_cell_tmp2 rfl]
  go_simp

set_option maxHeartbeats 2000000 in
set_option maxRecDepth 100000 in
theorem refTok_open (s : ByteArray) (w : World) (h1 : 1 ≤ s.size) (hs : s.size ≤ 4294967296) (c40 : s[0] = 40) :
    Calls Tryd.prog 31 #[.string s] w fun e w' => (∃ v, e = .returned v ∧ RefTV s.data.toList v) ∧ Below w.heap.size w w' := by
  have he : s.toList.isEmpty = false := by rw [is_empty]; exact decide_eq_false (by omega)
  have hlt : (0 : Int) < (s.size : Int) := by omega
  have h1' : (1 : Int) ≤ (s.size : Int) := by omega
  have hcl := s[0].toNat_lt
  have hl : s.data.toList = s[0] :: s.data.toList.drop 1 := by
    have := drop_byte s 0 h1
    rwa [List.drop_zero] at this
  have HF : Hid (tokA s.data.toList = some ((3, [40]), 1)) := hide (by rw [hl]; simp only [tokA]; rw [if_pos c40])
  have e40 : ((s[0].toNat : Int) == 40) = true := by rw [c40]; rfl
  have hsl := fun W => slice_from s 1 1 rfl h1 W
  have HX := hide (show bts (s.data.toList.drop 1) = s.extract 1 s.size from ext_list (by rw [toList_bts, toList_from]))
  have HT0 := hide (OneT.new w)
  clear hl c40
  go_enter Tryd.func31, Tryd.ntmps31
  go_upto_region 1 with (fail)
  rw [show World.alloc w (.cells #[.int .u8 0, .string ⟨#[]⟩] 39) = w.alloc (.cells zTok 39) from rfl]
  generalize w.alloc (.cells zTok 39) = W at HT0 ⊢
  have c00 := (unhide HT0).k0.cell 0
  have c01 := (unhide HT0).k0.cell 1
  have f00 := (unhide HT0).k0.frozen 0
  have f01 := (unhide HT0).k0.frozen 1
  simp only [zTok, List.getElem?_toArray, List.getElem?_cons_succ, List.getElem?_cons_zero] at c00 c01
  go_wp2
  go_region_with (fail)
  (try go_simp)
  (try go_wp2)
  (try simp only [Exit.inBlock, Exit.then])
  refine bodyPost_ret (v := .tuple #[.agg #[.int .u8 3, .string ⟨#[40]⟩], .string (s.extract 1 s.size), .bool true]) ?_ rfl ⟨⟨_, rfl, refTV_some (unhide HF) (by rw [unhide HX]; rfl)⟩, (unhide HT0).fin' _ _⟩
  rw [results_cell_tmp2 rfl]
  go_simp
end Go.Proofs.YtafegjbhaofgiaaDoor
