/-
  What nset.spansOf's function hands over, over this seat's program.
-/
import Derived.Test.YtihgmpebpkjmkaaGreatDoorNwl
import Derived.Test.YtihgmpebpkjmkaaGreatDoorNwm
import Derived.RangeFuncNested
import Derived.RangeFuncBound
import Derived.RangeFuncCalls
import Derived.RangeFuncLeaves
import Derived.Shelf.Abstract
import Derived.Shelf.RegionOpen
import Derived.WalkKit
import Derived.OwnWalkIn
import Derived.TacticsInMore
import Derived.LoopNIn
import Derived.LoopIn
set_option linter.unusedVariables false
namespace Go.Proofs.YtihgmpebpkjmkaaGreatDoor
open Go.RowKit Go.Shelf Go.Proofs.Nst
attribute [local go_sem] Oper.semAt_some

def pieceV (p : List UInt8) : Array Value := #[.agg #[.int .u32 ((spanP p).1.1 : Int), .int .u32 ((spanP p).1.2 : Int)], .bool (spanP p).2]
theorem pieces_step {f : Nat} {l : List UInt8} (h : l.length ≤ f) : piecesF f l = (cutB 44 l).1 :: (if (cutB 44 l).2.2 = true then piecesF (f - 1) (cutB 44 l).2.1 else []) := by
  cases f with
  | zero =>
    have h0 : l = [] := List.length_eq_zero_iff.1 (by omega)
    subst h0
    rfl
  | succ f =>
    rw [piecesF, Nat.add_sub_cancel]
    split
    · rfl
    · rfl
theorem grown_boxed {A B C : World} {b : Nat} {v : Value} (h1 : Below A.heap.size A B) (h2 : Below B.heap.size (B.setCell ⟨b, 0, none⟩ v) C) : A.grownBy C (some b) := by
  have hz : (B.setCell ⟨b, 0, none⟩ v).heap.size = B.heap.size := by simp
  refine ⟨h2.os.trans h1.os, h2.tape.trans h1.tape, h2.output.trans h1.output, by have := h1.size; have := h2.size; omega, fun k hk hn => ?_⟩
  rw [h2.block k (by have := h1.size; omega), Below.heap_setCell _ _ _ _ (fun e => hn (congrArg some e)), h1.block k hk]
theorem KeptBut.below0 {M : Nat → World → Prop} {n0 : Nat} {W W' : World} (h : KeptBut M W W') (hn : n0 ≤ W.heap.size) (hM : ∀ k, M k W → n0 ≤ k) : Below n0 W W' :=
  ⟨h.os, h.tape, h.output, h.size, fun k hk => h.block k (by omega) (fun hm => by have := hM k hm; omega)⟩

/-- How far the text still is. -/
def leftS (Br : Nat) (z : Value) (W : World) : Nat := match z with
  | .bool true => (match W.cell? ⟨Br, 0, none⟩ with
    | some (.string r) => r.size + 1
    | _ => 0)
  | _ => 0
theorem leftS_true {Br : Nat} {W : World} {r : ByteArray} (h : W.cell? ⟨Br, 0, none⟩ = some (.string r)) : leftS Br (.bool true) W = r.size + 1 := by unfold leftS; simp only [h]
theorem leftS_false {Br : Nat} {W : World} : leftS Br (.bool false) W = 0 := rfl
theorem leftS_next {Br : Nat} {W W' : World} {r y : ByteArray} {b : Bool} (h : W.cell? ⟨Br, 0, none⟩ = some (.string r)) (h' : W'.cell? ⟨Br, 0, none⟩ = some (.string y)) (hlt : b = true → y.size < r.size) : leftS Br (.bool b) W' < leftS Br (.bool true) W := by
  rw [leftS_true h]
  cases b with
  | false => rw [leftS_false]; omega
  | true => rw [leftS_true h']; have := hlt rfl; omega

set_option maxHeartbeats 4000000 in
set_option maxRecDepth 100000 in
theorem spans_gives (s : ByteArray) (w0 w : World) (n Br : Nat) (hn : 2 ≤ n) (hs : s.size ≤ 140737488355328) (hE : ErrN w0) (hb0 : Below w0.heap.size w0 w) (hbr : Boxed w Br 9 (.string s)) (hBr0 : w0.heap.size ≤ Br) (hBr : Br < w.heap.size) :
    GivesL Fence.wide n Tryz.prog 49 #[.pointer (some ⟨Br, 0, none⟩)] pieceV w0.heap.size Br (fun k => k = Br) (fun xs => xs = piecesL s.data.toList) (fun xs => xs <+: piecesL s.data.toList) w := by
  have hn1 : 1 ≤ n := by omega
  intro l J Jx M W hW hJ hJx hm hY h0
  have HJ := hide hJ
  have HM := hide hm
  have HY := hide hY
  have HJ0 := hide h0
  have HE := hide hE
  have HB0 := hide (belows' hb0 hW)
  have HBX : Hid (Boxed W Br 9 (.string s)) := hide ((hW.block Br hBr).trans hbr)
  have HRS := hide (fun (x : ByteArray) W (hE : ErrN W) (h : x.size ≤ 281474976710656) => readSpan_any x W hE h)
  have hBW : Br < W.heap.size := Nat.lt_of_lt_of_le hBr hW.size
  clear hJ hJx hm hY h0 hW hbr hE hb0 hBr
  refine callsIn_of_wp Tryz.func49 rfl trivial ?_ rfl
  simp only [Tryz.ntmps49, List.size_toArray, List.length_cons, List.length_nil, Nat.reduceAdd, Nat.reduceSub, Array.replicate_succ, Array.replicate_zero, List.push_toArray, List.append_toArray, List.nil_append, List.cons_append]
  gi_wp2
  gi_loopw [3, 4] (fun z _ wr => ∃ (b : Bool) (rest : ByteArray) (pre : List (List UInt8)), z = .bool b ∧ Hid (if b = true then ∃ f, rest.size ≤ f ∧ rest.size ≤ s.size ∧ pre ++ piecesF f rest.data.toList = piecesL s.data.toList else pre = piecesL s.data.toList) ∧ Hid (Boxed wr Br 9 (.string rest)) ∧ Hid (J pre wr) ∧ Hid (Below w0.heap.size w0 wr) ∧ Hid (Br < wr.heap.size)) (fun z _ wr => leftS Br z wr)
  case atStart => exact ⟨true, s, [], rfl, hide (by rw [if_pos rfl]; exact ⟨s.size, Nat.le_refl _, Nat.le_refl _, by rw [List.nil_append, ← sizeL]; rfl⟩), HBX, HJ0, HB0, hide hBW⟩
  case round =>
    clear HBX HJ0 HB0 hBW
    obtain ⟨b, rest, pre, rfl, HP, HBX, HJ0, HB0, HBL⟩ := hrel
    cases b with
    | false =>
      have HP2 : Hid (pre = piecesL s.data.toList) := HP
      gi_wp2
      go_end0
      exact ⟨⟨_, rfl⟩, .inl ⟨pre, unhide HP2, unhide HJ0⟩⟩
    | true =>
      have HP2 : Hid (∃ f, rest.size ≤ f ∧ rest.size ≤ s.size ∧ pre ++ piecesF f rest.data.toList = piecesL s.data.toList) := HP
      have hc0 := (unhide HBX).cell
      have HCUT := hide (fun W => cutN_any 44 rest W (by obtain ⟨f, _, h2, _⟩ := unhide HP2; omega))
      have HLN := hide (cutB_len 44 rest.data.toList)
      have HST : Hid (∃ f, rest.size ≤ s.size ∧ pre ++ ((cutB 44 rest.data.toList).1 :: (if (cutB 44 rest.data.toList).2.2 = true then piecesF (f - 1) (cutB 44 rest.data.toList).2.1 else [])) = piecesL s.data.toList ∧ rest.size ≤ f) := hide (by
        obtain ⟨f, h1, h2, h3⟩ := unhide HP2
        rw [pieces_step (by rw [sizeL]; exact h1)] at h3
        exact ⟨f, h2, h3, h1⟩)
      clear HP HP2
      gi_wp2_with fail
      refine ⟨trivial, (callsIn_wide.2 (unhide HCUT _)).mono ?_⟩
      rintro e w1 ⟨⟨x, y, rfl, hx, hy, hxs, hys⟩, hb1⟩
      have HX := hide hx
      have HY9 := hide hy
      have HLN2 : Hid (y.size + (if (cutB 44 rest.data.toList).2.2 then 1 else 0) ≤ rest.size) := hide (by have h9 := unhide HLN; rw [← hy, sizeL, sizeL] at h9; exact h9)
      obtain ⟨mo, hmo⟩ : ∃ mo, mo = (cutB 44 rest.data.toList).2.2 := ⟨_, rfl⟩
      rw [← hmo] at HST HLN2 ⊢
      rw [← hx, ← hy] at HST
      have hbx1 : Boxed w1 Br 9 (.string rest) := (hb1.block Br (unhide HBL)).trans (unhide HBX)
      have hc1 := hbx1.cell
      have hf1 := hbx1.frozen
      have HBX2 : Hid (Boxed (w1.setCell ⟨Br, 0, none⟩ (.string y)) Br 9 (.string y)) := hide (hbx1.set _)
      have HB1 := hide hb1
      have HB2 : Hid (Below w0.heap.size w0 (w1.setCell ⟨Br, 0, none⟩ (.string y))) := hide ((belows' (unhide HB0) hb1).setCell (p := ⟨Br, 0, none⟩) hBr0 _)
      have hxl : x.size ≤ 281474976710656 := by obtain ⟨_, h9, _⟩ := unhide HST; omega
      have HRX := hide (unhide HRS x _ ((unhide HE).below (unhide HB2)) hxl)
      have HPV : Hid (pieceV x.data.toList = #[.agg #[.int .u32 ((spanP x.data.toList).1.1 : Int), .int .u32 ((spanP x.data.toList).1.2 : Int)], .bool (spanP x.data.toList).2]) := hide rfl
      clear hx hy hb1 hbx1 hmo HCUT HLN hxl hxs hys
      generalize (spanP x.data.toList).1.1 = sf at HRX HPV
      generalize (spanP x.data.toList).1.2 = st at HRX HPV
      generalize (spanP x.data.toList).2 = sr at HRX HPV
      gi_wp2_with fail
      refine ⟨trivial, (callsIn_wide.2 (unhide HRX)).mono ?_⟩
      rintro e w2 ⟨rfl, hb2⟩
      have hz : (w1.setCell ⟨Br, 0, none⟩ (.string y)).heap.size = w1.heap.size := by simp
      have hb2' : Below w1.heap.size (w1.setCell ⟨Br, 0, none⟩ (.string y)) w2 := by rw [← hz]; exact hb2
      have HG := hide (grown_boxed (unhide HB1) hb2')
      have HBX3 : Hid (Boxed w2 Br 9 (.string y)) := hide ((hb2.block Br (unhide HBX2).lt).trans (unhide HBX2))
      have HB3 := hide (belows' (unhide HB2) hb2)
      have HJ2 := hide (unhide HJ _ _ _ (unhide HJ0) (unhide HG))
      have HPF : Hid (pre ++ [x.data.toList] <+: piecesL s.data.toList) := hide (by
        obtain ⟨f, _, h9, _⟩ := unhide HST
        rw [← h9]
        exact ⟨_, by rw [List.append_assoc]; rfl⟩)
      obtain ⟨fn1, tm1, as1, bo1, hy1, hR1⟩ := unhide HY pre x.data.toList w2 (unhide HJ2) (unhide HPF)
      rw [unhide HPV] at hy1
      clear hb2 hb2' hz HRX HPV HBX2 HB2 HB1 hc1 hf1 HG
      gi_wp2_with fail
      refine hR1.mono ?_
      rintro e wY hcase
      rcases hcase with ⟨rfl, hJ1, hk1⟩ | ⟨rfl, hx1⟩
      · have hnM : ¬ M Br w2 := fun h9 => (unhide HM _ _ _ (unhide HJ2) h9).2.2 rfl
        have hbY : Boxed wY Br 9 (.string y) := (hk1.block Br (unhide HBX3).lt hnM).trans (unhide HBX3)
        have HBY := hide hbY
        have hcY := hbY.cell
        have HJY := hide hJ1
        have HB4 := hide ((unhide HB3).trans (hk1.below0 (unhide HB3).size (fun k h9 => (unhide HM _ _ _ (unhide HJ2) h9).1)))
        have HPN : Hid (if mo = true then ∃ f, y.size ≤ f ∧ y.size ≤ s.size ∧ (pre ++ [x.data.toList]) ++ piecesF f y.data.toList = piecesL s.data.toList else pre ++ [x.data.toList] = piecesL s.data.toList) := hide (by
          obtain ⟨f, h7, h8, h9⟩ := unhide HST
          have h10 := unhide HLN2
          cases mo with
          | false => rw [if_neg (by simp)] at h8 ⊢; exact h8
          | true =>
            rw [if_pos rfl] at h8 h10 ⊢
            exact ⟨f - 1, by omega, by omega, by rw [List.append_assoc]; exact h8⟩)
        have HDEC : Hid (leftS Br (.bool mo) wY < leftS Br (.bool true) wr) := hide (leftS_next hc0 hcY (fun h9 => by have h10 := unhide HLN2; rw [h9] at h10; simp only [if_true] at h10; omega))
        have HBL2 := hide hbY.lt
        clear hbY hcY hJ1 hk1 hy1 hR1 HBX3 HJ2 HB3 HST HLN2 HPF hnM hc0
        gi_wp2
        go_roundw
        case rel => exact ⟨mo, y, _, rfl, HPN, HBY, HJY, HB4, HBL2⟩
        case measure => exact unhide HDEC
      · have HXX := hide hx1
        clear hx1 hy1 hR1 HBX3 HJ2 HB3 HST HLN2 hc0
        gi_wp2
        (try simp +zetaDelta only [Exit.noGoto, Exit.inBlock, Exit.then])
        trace_state
        refine bodyPost_ret (results_none rfl _ _ _) rfl ?_
        exact ⟨⟨_, rfl⟩, .inr ⟨_, unhide HPF, unhide HXX⟩⟩
end Go.Proofs.YtihgmpebpkjmkaaGreatDoor
