/-
  What a packed list's reader hands over, block by block, over this seat's program.
-/
import Derived.Test.YtfjjigcghhohkaaPne
import Derived.Test.YtfjjigcghhohkaaPnf
import Derived.RangeFuncNested
import Derived.RangeFuncBound
import Derived.RangeFuncCalls
import Derived.RangeFuncLeaves
import Derived.Shelf.Abstract
import Derived.Shelf.RegionOpen
import Derived.WalkKit
import Derived.OwnWalkIn
import Derived.TacticsInMore
import Derived.LoopNIn
import Derived.LoopIn
set_option linter.unusedVariables false
namespace Go.Proofs.Ytfjjigcghhohkaa
open Go.RowKit Go.Shelf Go.Proofs.Num Go.Proofs.Dct Go.Proofs.Pna
attribute [local go_sem] Oper.semAt_some

/-- A block as it is handed over: the slice of its numbers, where it begins, the numbers. -/
structure Bk where
  v : Value
  pos : Nat
  l : List Nat
def Bk.enc (x : Bk) : Array Value := #[blkV x.pos x.l x.v]
def Bk.say (x : Bk) : Nat × List Nat := (x.pos, x.l)
/-- How a block lies where its round begins. -/
def BkR (n0 : Nat) (M : Nat → World → Prop) (x : Bk) (W : World) : Prop :=
  W.ownsRow n0 31 1 x.v x.l.length (flatG cells32 x.l) ∧ ∀ k, x.v.ownBlock = some k → ¬ M k W ∧ k < W.heap.size

theorem KeptBut.bbelow {M : Nat → World → Prop} {n0 : Nat} {W W' : World} (h : KeptBut M W W') (hn : n0 ≤ W.heap.size) (hM : ∀ k, M k W → n0 ≤ k) : Below n0 W W' :=
  ⟨h.os, h.tape, h.output, h.size, fun k hk => h.block k (by omega) (fun hm => by have := hM k hm; omega)⟩
theorem But.grown {B : Nat} {W W' : World} (h : But B W W') : W.grownBy W' (some B) := ⟨h.os, h.tape, h.output, h.size, fun k hk hn => h.block k hk (fun e => hn (by rw [e]))⟩
theorem bown_block {w : World} {B : Nat} {e : TypeId} {v : Value} {n : Nat} {xs : List Value} (h : w.ownsRow B e 1 v n xs) {k : Nat} (hk : v.ownBlock = some k) : B ≤ k ∧ k < w.heap.size := by
  rcases h.2 with ⟨rfl, _⟩ | ⟨g, cap, cur, rfl, hg, hc, _⟩
  · cases hk
  · cases hk
    exact ⟨hg, (Array.getElem?_eq_some_iff.1 hc).1⟩
theorem bown_slice {w : World} {B : Nat} {e : TypeId} {v : Value} {n : Nat} {xs : List Value} (h : w.ownsRow B e 1 v n xs) : ∃ a nn cap, v = .slice a nn cap := by
  rcases h.2 with ⟨rfl, _⟩ | ⟨g, cap, cur, rfl, hg, hc, _⟩
  · exact ⟨_, _, _, rfl⟩
  · exact ⟨_, _, _, rfl⟩
section
variable {J : List Bk → World → Prop} {M : Nat → World → Prop} {n0 Br : Nat} {K : Nat → Prop}
theorem BkR.new (hm : ∀ s A k, J s A → M k A → n0 ≤ k ∧ k < A.heap.size ∧ ¬ K k) (ho : ∀ s A B k, J s A → A.grownBy B (some Br) → M k B → M k A) {s : List Bk} {A B : World} {x : Bk} (hj : J s A) (hb : But Br A B) (hn : n0 ≤ A.heap.size)
    (h : B.ownsRow A.heap.size 31 1 x.v x.l.length (flatG cells32 x.l)) : BkR n0 M x B := by
  refine ⟨own_mono h hn, fun k hk => ?_⟩
  have hbk := bown_block h hk
  refine ⟨fun hmk => ?_, hbk.2⟩
  have := hm s A k hj (ho s A B k hj hb.grown hmk)
  omega
theorem BkR.grow (ho : ∀ s A B k, J s A → A.grownBy B (some Br) → M k B → M k A) {s : List Bk} {A B : World} {x : Bk} (hj : J s A) (hb : Below A.heap.size A B) (h : BkR n0 M x A) : BkR n0 M x B := by
  refine ⟨own_below h.1 hb, fun k hk => ?_⟩
  have := h.2 k hk
  have hs := hb.size
  exact ⟨fun hm => this.1 (ho s A B k hj (But.of_below hb).grown hm), by omega⟩
end
theorem countS_le (T : List UInt8) (r : RS) : (countS T r).1 ≤ 65536 := by
  unfold countS
  split
  · exact Nat.zero_le _
  · omega
theorem KeptBut.blk {M : Nat → World → Prop} {W W' : World} {B : Nat} {t : TypeId} {cs : Array Value} (h : KeptBut M W W') (hb : Blk W B t cs) (hn : ¬ M B W) : Blk W' B t cs := by
  have := h.block B (Blk.lt hb) hn
  unfold Blk at *
  rw [this]
  exact hb

set_option maxHeartbeats 4000000 in
set_option maxRecDepth 100000 in
theorem blocks_gives (T : ByteArray) (w : World) (n n0 Br Bs : Nat) (tb : TypeId) (hn : 1 ≤ n) (hT : T.size ≤ 140737488355328) (hbs : Blk w Bs tb #[.pointer (some ⟨Br, 0, none⟩)]) (hrd : Rdr w Br T ⟨0, 0, 0⟩) (hne : Bs ≠ Br) (hn0 : n0 ≤ w.heap.size) :
    GivesB Fence.wide n Try.prog 37 #[.pointer (some ⟨Bs, 0, none⟩)] Bk.enc (BkR n0) n0 Br (fun k => k = Br ∨ k = Bs) (fun xs => xs.map Bk.say = (readS T.data.toList).1) (fun xs => xs.map Bk.say <+: (readS T.data.toList).1) (fun _ W => Rdr W Br T (readS T.data.toList).2) w := by
  intro l J M W hW hJ hm ho hY h0
  have HJ := hide hJ
  have HM := hide hm
  have HO := hide ho
  have HY := hide hY
  have hin : In T.data.toList ⟨0, 0, 0⟩ := ⟨Nat.zero_le _, by simp⟩
  have HC := hide (rcount_any Br T ⟨0, 0, 0⟩ W (hrd.below hW) hin hT)
  have HBS := hide (Blk.below hbs hW)
  have HN0 := hide (Nat.le_trans hn0 hW.size)
  have HJ0 := hide h0
  have hld : W.cell? ⟨Bs, 0, none⟩ = some (.pointer (some ⟨Br, 0, none⟩)) := (Blk.cell (unhide HBS) 0).trans rfl
  obtain ⟨c, hc⟩ : ∃ c, c = countS T.data.toList ⟨0, 0, 0⟩ := ⟨_, rfl⟩
  have HRS : Hid (readS T.data.toList = blocksF T.data.toList (c.1 + 1) c.1 c.2) := hide (by rw [hc]; rfl)
  have HIC : Hid (In T.data.toList c.2) := hide (by rw [hc]; exact hin.count)
  have hcl : c.1 ≤ 65536 := by rw [hc]; exact countS_le _ _
  rw [← hc] at HC
  clear hJ hm ho hY h0 hW hbs hrd hin hn0 hc
  obtain ⟨cn, cr⟩ := c
  simp only at HC HRS HIC hcl
  refine callsIn_of_wp Try.func37 rfl trivial ?_ rfl
  simp only [Try.ntmps37, List.size_toArray, List.length_cons, List.length_nil, Nat.reduceAdd, Nat.reduceSub, Array.replicate_succ, Array.replicate_zero, List.push_toArray, List.append_toArray, List.nil_append, List.cons_append]
  gi_wp2_with fail
  refine ⟨trivial, (callsIn_wide.2 (unhide HC)).mono ?_⟩
  rintro e W1 ⟨rfl, hr1, b1⟩
  have HR1 := hide hr1
  have HJ1 := hide (unhide HJ _ _ _ (unhide HJ0) b1.grown)
  have HS1 := hide ((unhide HBS).but b1 hne)
  have HN1 := hide (Nat.le_trans (unhide HN0) b1.size)
  clear hr1 b1 HC HJ0 HBS HN0 hld
  gi_wp2
  gi_loopw [3, 4] (fun z _ wr => ∃ (left : Nat) (r : RS) (pre : List Bk) (f : Nat), z = .int .i64 (left : Int) ∧ left ≤ 65536 ∧ left < f ∧ Hid (In T.data.toList r) ∧ Hid (pre.map Bk.say ++ (blocksF T.data.toList f left r).1 = (readS T.data.toList).1 ∧ (blocksF T.data.toList f left r).2 = (readS T.data.toList).2) ∧ Hid (Rdr wr Br T r) ∧ Hid (Blk wr Bs tb #[.pointer (some ⟨Br, 0, none⟩)]) ∧ Hid (J pre wr) ∧ Hid (n0 ≤ wr.heap.size)) (fun z _ _ => match z with | .int _ t => t.toNat | _ => 0)
  case atStart => exact ⟨cn, cr, [], cn + 1, rfl, hcl, by omega, HIC, hide ⟨by rw [unhide HRS]; rfl, by rw [unhide HRS]⟩, HR1, HS1, HJ1, HN1⟩
  case round =>
    obtain ⟨left, r, pre, f, rfl, hl6, hlf, HIN, HP, HR, HS, HJ0, HN⟩ := hrel
    clear HR1 HS1 HJ1 HN1 HRS HIC hcl
    obtain ⟨f, rfl⟩ : ∃ f', f = f' + 1 := ⟨f - 1, by omega⟩
    by_cases hl0 : left = 0
    · subst hl0
      have hp := unhide HP
      rw [blocksF, if_pos rfl, List.append_nil] at hp
      have HP := hide hp
      clear hp
      gi_wp2
      go_end0
      exact ⟨⟨_, rfl⟩, pre, (unhide HP).1, unhide HJ0, by rw [← (unhide HP).2]; exact unhide HR⟩
    · have hg : (0 : Int) < (left : Int) := by omega
      obtain ⟨m, hm⟩ : ∃ m, m = min left 32 := ⟨_, rfl⟩
      have hm1 : 1 ≤ m := by omega
      have hm2 : m ≤ 32 := by omega
      have hml : m ≤ left := by omega
      have hmi : min (left : Int) 32 = (m : Int) := by omega
      have HB := hide (rblock_any Br T r m wr (unhide HR) (unhide HIN) hT hm1 hm2)
      have HIN2 := hide ((unhide HIN).block m)
      have HLN := hide (blockS_len (T := T.data.toList) (r := r) hm1)
      have hp := unhide HP
      rw [blocksF, if_neg hl0, ← hm] at hp
      simp only at hp
      obtain ⟨q, hq⟩ : ∃ q, q = blockS T.data.toList r m := ⟨_, rfl⟩
      rw [← hq] at HB HIN2 HLN hp
      obtain ⟨bl, r2⟩ := q
      simp only at HB HIN2 HLN hp
      have HP := hide hp
      have hld : wr.cell? ⟨Bs, 0, none⟩ = some (.pointer (some ⟨Br, 0, none⟩)) := (Blk.cell (unhide HS) 0).trans rfl
      have HML := hide hml
      have HLF := hide hlf
      clear hp hq hm hl0 HR HIN hml hlf
      gi_wp2_with fail
      refine ⟨trivial, (callsIn_wide.2 (unhide HB)).mono ?_⟩
      rintro e wB ⟨⟨x, rfl, hox⟩, hr2, b2⟩
      have HR2 := hide hr2
      have HJ2 := hide (unhide HJ _ _ _ (unhide HJ0) b2.grown)
      have HS2 := hide ((unhide HS).but b2 hne)
      have HX2 : Hid (BkR n0 M ⟨x, r.pos, bl⟩ wB) := hide (BkR.new (x := ⟨x, r.pos, bl⟩) (unhide HM) (unhide HO) (unhide HJ0) b2 (unhide HN) (by rw [unhide HLN]; exact hox))
      have HN2 := hide (Nat.le_trans (unhide HN) b2.size)
      obtain ⟨xa, xn, xc, rfl⟩ := bown_slice hox
      clear hox hr2 b2 HB HJ0 HS HN hld
      unfold blkV
      generalize hF : bl.getD 0 0 = bf
      generalize hL : bl.getD (bl.length - 1) 0 = bz
      rw [unhide HLN]
      have HF := hide hF
      have HL := hide hL
      clear hF hL
      have hbA : Below wB.heap.size wB (wB.alloc (.cells #[.int .u32 (bf : Int), .int .u32 (bz : Int), .int .i64 (m : Int), .int .i64 (r.pos : Int), .slice xa xn xc] 71)) := (Below.refl _ _).alloc (Nat.le_refl _) _
      have HRC := hide ((unhide HR2).below hbA)
      have HSC := hide (Blk.below (unhide HS2) hbA)
      have HJC := hide (unhide HJ _ _ _ (unhide HJ2) (But.of_below hbA).grown)
      have HXC := hide (BkR.grow (unhide HO) (unhide HJ2) hbA (unhide HX2))
      have HBC : Hid (Blk (wB.alloc (.cells #[.int .u32 (bf : Int), .int .u32 (bz : Int), .int .i64 (m : Int), .int .i64 (r.pos : Int), .slice xa xn xc] 71)) wB.heap.size 71 #[.int .u32 (bf : Int), .int .u32 (bz : Int), .int .i64 (m : Int), .int .i64 (r.pos : Int), .slice xa xn xc]) := hide (Blk.new _ _ _)
      have HCM : Hid (¬ M wB.heap.size (wB.alloc (.cells #[.int .u32 (bf : Int), .int .u32 (bz : Int), .int .i64 (m : Int), .int .i64 (r.pos : Int), .slice xa xn xc] 71))) := hide (fun h => by
        have := unhide HM _ _ _ (unhide HJ2) (unhide HO _ _ _ _ (unhide HJ2) (But.of_below hbA).grown h)
        omega)
      have HNC := hide (Nat.le_trans (unhide HN2) hbA.size)
      have n1 : Bs ≠ wB.heap.size := by have := Blk.lt (unhide HS2); omega
      have n2 : Br ≠ wB.heap.size := by have := Blk.lt (unhide HR2); omega
      have c1 : wB.cell? ⟨Bs, 0, none⟩ = some (.pointer (some ⟨Br, 0, none⟩)) := (Blk.cell (unhide HS2) 0).trans rfl
      have c3 : wB.cell? ⟨Br, 3, none⟩ = some (.int .i64 (r2.er : Int)) := (Blk.cell (unhide HR2) 3).trans rfl
      have c1' := (Blk.cell (unhide HSC) 0)
      have c3' := (Blk.cell (unhide HRC) 3)
      simp only [List.getElem?_toArray, List.getElem?_cons_zero, List.getElem?_cons_succ] at c1' c3'
      clear hbA HR2 HS2 HJ2 HX2 HN2
      by_cases her : r2.er = 0
      · have e0 : ((r2.er : Int) == 0) = true := by rw [her]; rfl
        have e1 : ((r2.er : Int) != 0) = false := by rw [her]; rfl
        have hp := unhide HP
        rw [if_neg (by simp [her])] at hp
        have HP := hide hp
        clear hp
        generalize (r2.er : Int) = er at c3 c3' e0 e1
        obtain ⟨fn1, tm1, as1, bo1, hy1, hR1⟩ := unhide HY pre ⟨.slice xa xn xc, r.pos, bl⟩ _ (unhide HJC) (unhide HXC) ⟨(blocksF T.data.toList f (left - m) r2).1, by rw [← (unhide HP).1]; simp [Bk.say]⟩
        dsimp only [Bk.enc, blkV] at hy1
        rw [unhide HF, unhide HL, unhide HLN] at hy1
        gi_wp2_with fail
        refine hR1.mono ?_
        rintro e wY ⟨rfl, hJ1, hk1⟩
        have HJY := hide hJ1
        have HRY : Hid (Rdr wY Br T r2) := hide (hk1.blk (unhide HRC) (fun h => (unhide HM _ _ _ (unhide HJC) h).2.2 (.inl rfl)))
        have HSY := hide (hk1.blk (unhide HSC) (fun h => (unhide HM _ _ _ (unhide HJC) h).2.2 (.inr rfl)))
        have hBY := hk1.blk (unhide HBC) (unhide HCM)
        have HNY := hide (Nat.le_trans (unhide HNC) hk1.size)
        have d2 : wY.cell? ⟨wB.heap.size, 2, none⟩ = some (.int .i64 (m : Int)) := (Blk.cell hBY 2).trans rfl
        have hlm := unhide HML
        have hsub : IntKind.i64.wrap ((left : Int) - (m : Int)) = ((left - m : Nat) : Int) := by rw [IntKind.wrap_i64]; omega
        clear hJ1 hk1 hBY hy1 hR1 HJC HXC HRC HSC HBC HCM HNC c1 c3 c1' c3' n1 n2 e0 e1
        gi_wp2
        go_roundw
        case rel => exact ⟨left - m, r2, pre ++ [⟨.slice xa xn xc, r.pos, bl⟩], f, by first | rw [hsub] | (congr 1; done) | (congr 1; omega), by omega, by have := unhide HLF; omega, HIN2, hide ⟨by rw [← (unhide HP).1]; simp [Bk.say], (unhide HP).2⟩, HRY, HSY, HJY, HNY⟩
        case measure => have := unhide HLF; simp only []; omega
      · have e0 : ((r2.er : Int) == 0) = false := by rw [beq_eq_false_iff_ne]; omega
        have e1 : ((r2.er : Int) != 0) = true := by simp [bne, e0]
        have hp := unhide HP
        rw [if_pos her, List.append_nil] at hp
        have HP := hide hp
        clear hp
        generalize (r2.er : Int) = er at c3 c3' e0 e1
        gi_wp2_with fail
        refine ⟨fun _ h => (by cases h), ?_⟩
        gi_wp2
        refine bodyPost_ret (results_none rfl _ _ _) rfl ?_
        exact ⟨⟨_, rfl⟩, pre, (unhide HP).1, unhide HJC, by rw [← (unhide HP).2]; exact unhide HRC⟩
end Go.Proofs.Ytfjjigcghhohkaa
