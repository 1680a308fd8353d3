/-
  A tally's text is tokens: plain mathematics.
-/
import Derived.Test.YtihgmpebpkjmkaaGreatDoorBnd7
import Derived.Test.YtihgmpebpkjmkaaGreatDoorBnd8
import Derived.Test.YtihgmpebpkjmkaaGreatDoorBnd6
import Derived.Test.YtihgmpebpkjmkaaGreatDoorRows
import Derived.Lib.LaidU8
import Derived.Lib.LaidTab
import Derived.OpenShut
set_option linter.unusedVariables false
set_option linter.unusedSimpArgs false
namespace Go.Proofs.YtihgmpebpkjmkaaGreatDoor
open Go.RowKit Go.Proofs.Nst Go.Proofs.Dct

theorem dec_isA {n : Nat} : (Lib.decDigits n).all Lx.isA = true := by
  rw [List.all_eq_true]
  intro x hx
  have := Nst.dig_mem n x hx
  unfold Lx.isA
  rw [decide_eq_true_eq]
  omega
theorem endT_isA {n : Nat} : (endT n).all Lx.isA = true := by
  unfold endT
  split
  · decide
  · exact dec_isA
theorem spanT_isA {s : Sp} : (spanT s).all Lx.isA = true := by
  unfold spanT
  split
  · rw [List.all_append, List.all_cons, endT_isA, endT_isA]; decide
  · exact endT_isA
theorem joinL_isA : ∀ (ps : List (List UInt8)), (∀ p ∈ ps, p.all Lx.isA = true) → (joinL ps).all Lx.isA = true
  | [], _ => by simp [joinL]
  | [p], h => by simpa [joinL] using h p (by simp)
  | p :: q :: r, h => by
    rw [joinL]
    · rw [List.all_append, List.all_cons, h p (by simp), joinL_isA (q :: r) (fun p' hp' => h p' (List.mem_cons_of_mem _ hp'))]
      decide
    · simp
theorem writeP_isA (l : List Sp) : (writeP l).all Lx.isA = true := joinL_isA _ (fun p hp => by
  obtain ⟨s, _, rfl⟩ := List.mem_map.1 hp
  exact spanT_isA)
theorem textT_isA (t : Tly) (k : Nat) : (textT t k).all Lx.isA = true := by
  unfold textT
  split
  · exact dec_isA
  · split
    · exact dec_isA
    · split
      · unfold writeR
        split
        · rfl
        · exact writeP_isA _
      · split
        · exact dec_isA
        · rfl
/-- The tokens of what is told behind some words. -/
def toksT (t : Tly) : List (List UInt8 × Nat) → List Lx.Tok
  | [] => []
  | p :: r => if textT t p.2 = [] then toksT t r else (1, p.1) :: (1, textT t p.2) :: toksT t r
theorem write_toks (t : Tly) : ∀ (ps : List (List UInt8 × Nat)) (a : Nat), (a = 0 ∨ a = 1) → (∀ p ∈ ps, p.1 ≠ [] ∧ p.1.all Lx.isA = true) →
    Lx.writeA a (toksT t ps) = some (if restT t ps = [] then [] else (if a = 0 then [] else [32]) ++ restT t ps)
  | [], a, _, _ => by simp [toksT, Lx.writeA, restT]
  | p :: r, a, ha, h => by
    have hp := h p List.mem_cons_self
    have ih := write_toks t r 1 (.inr rfl) (fun q hq => h q (List.mem_cons_of_mem _ hq))
    by_cases hz : textT t p.2 = []
    · have e1 : toksT t (p :: r) = toksT t r := by rw [toksT, if_pos hz]
      have e2 : restT t (p :: r) = restT t r := by rw [restT, if_pos hz]
      rw [e1, e2]
      exact write_toks t r a ha (fun q hq => h q (List.mem_cons_of_mem _ hq))
    · have e1 : toksT t (p :: r) = (1, p.1) :: (1, textT t p.2) :: toksT t r := by rw [toksT, if_neg hz]
      have e2 : restT t (p :: r) = p.1 ++ 32 :: (textT t p.2 ++ (if restT t r = [] then [] else 32 :: restT t r)) := by rw [restT, if_neg hz]
      have t1 : Lx.textA (1, p.1) = some p.1 := by unfold Lx.textA; rw [if_pos rfl, if_pos hp]
      have t2 : Lx.textA (1, textT t p.2) = some (textT t p.2) := by unfold Lx.textA; rw [if_pos rfl, if_pos ⟨hz, textT_isA t p.2⟩]
      have h2 : ¬ (p.1 ++ 32 :: (textT t p.2 ++ (if restT t r = [] then [] else 32 :: restT t r))) = [] := by simp
      rw [e1, e2, if_neg h2]
      rw [Lx.writeA, t1]
      simp only
      rw [Lx.writeA, t2]
      simp only
      rw [ih]
      by_cases hr : restT t r = []
      · rcases ha with rfl | rfl <;> simp [hr]
      · rcases ha with rfl | rfl <;> simp [hr]
theorem toksT_len (t : Tly) : ∀ ps : List (List UInt8 × Nat), (toksT t ps).length ≤ 2 * ps.length
  | [] => by simp [toksT]
  | p :: r => by
    have := toksT_len t r
    rw [toksT]
    split
    · simp only [List.length_cons]; omega
    · simp only [List.length_cons]; omega
theorem tokens_body (t : Tly) : Lx.tokensL (bodyT t) = (toksT t wordsT, 0) := by
  refine Lx.tokens_write ?_
  have hl := toksT_len t wordsT
  have hw : wordsT.length = 4 := rfl
  unfold Lx.writeL
  rw [if_neg (by omega), write_toks t wordsT 0 (.inl rfl) (by decide), body_rest]
  by_cases h : restT t wordsT = []
  · rw [if_pos h, h]
  · rw [if_neg h]; simp
/-- What TopTallied asks of the tokens. -/
structure TokOk (ns : List Nat) (L : List Lx.Tok) : Prop where
  two : ∃ h, L.length = 2 * h ∧ 1 ≤ h ∧ h ≤ 4
  few : L.length = 2 ↔ ns = []
  each : ∀ j, 2 * j + 1 < L.length → ∃ w x : List UInt8, L[2 * j]? = some (1, w) ∧ L[2 * j + 1]? = some (1, x) ∧ ∃ b, wordR w = (b, 0) ∧ b ≤ 8 ∧ (b = 4 → x = writeP (packS ns) ∧ ns ≠ [] ∧ chk ns = 0 ∧ (packS ns).length ≤ 1024)
theorem word1 : wordR [77, 73, 78] = (1, 0) := by decide +kernel
theorem word2 : wordR [77, 65, 88] = (2, 0) := by decide +kernel
theorem word4 : wordR [65, 76, 76] = (4, 0) := by decide +kernel
theorem word8 : wordR [67, 79, 85, 78, 84] = (8, 0) := by decide +kernel
theorem toks_ok {ns : List Nat} (h : (ofR 15 ns).2 = 0) : TokOk ns (toksT (ofR 15 ns).1 wordsT) := by
  have b1 : bitW 15 1 = true := by decide
  have b2 : bitW 15 2 = true := by decide
  have b4 : bitW 15 4 = true := by decide
  have b8 : bitW 15 8 = true := by decide
  have e15 : ∀ P, ofT 15 ns P = ⟨15, (ns.length : Int), ns.headD 0, ns.getLastD 0, P⟩ := fun P => by unfold ofT; rw [if_pos b8, if_pos b1, if_pos b2, if_pos b4]
  obtain ⟨_, hm, hc, hh⟩ := ofR_cases h
  rcases hh with ⟨hn, e⟩ | ⟨hn, h4, e⟩
  · rw [e]
    have e1 : toksT (⟨15, 0, 0, 0, []⟩ : Tly) wordsT = [(1, [67, 79, 85, 78, 84]), (1, Lib.decDigits 0)] := by
      simp [toksT, wordsT, textT, b8, dec_ne]
    rw [e1]
    refine ⟨⟨1, rfl, by omega, by omega⟩, by simp [hn], fun j hj => ?_⟩
    obtain rfl : j = 0 := by simp at hj; omega
    exact ⟨_, _, rfl, rfl, 8, word8, by omega, fun h9 => by omega⟩
  · obtain ⟨a, r, har⟩ : ∃ a r, ns = a :: r := by
      cases ns with
      | nil => exact absurd rfl hn
      | cons a r => exact ⟨a, r, rfl⟩
    obtain ⟨hp, hl⟩ := rise_pair hc
    have hgap := rise_gap ns hp a r har
    have ha : a ≠ 0 := fun h9 => hm (by rw [har, h9]; simp)
    have hd : ns.headD 0 = a := by rw [har]; rfl
    have hlen : 1 ≤ ns.length := by rw [har]; simp
    have hlast : ns.getLastD 0 ≠ 0 := by omega
    have hhead : ns.headD 0 ≠ 0 := by rw [hd]; exact ha
    have hpk := packR_ok (h4 b4)
    have hpl : (packS ns).length ≤ 1024 := by rw [← hpk]; exact packR_len ns
    have hpne : packS ns ≠ [] := fun e9 => hn ((packS_last _ ns rfl hp).2.1.1 e9)
    have hpw : (writeR (packS ns)).1 = writeP (packS ns) := by
      unfold writeR
      rw [if_neg (by rintro (h9 | h9); exact hpne h9; omega)]
    have hall := hp
    have hwne : writeP (packS ns) ≠ [] := by
      intro e9
      obtain ⟨s, q, hs⟩ : ∃ s q, packS ns = s :: q := by
        cases hx : packS ns with
        | nil => exact absurd hx hpne
        | cons s q => exact ⟨s, q, rfl⟩
      rw [hs] at e9
      unfold writeP at e9
      rw [List.map_cons] at e9
      have hsp : spanT s ≠ [] := by
        unfold spanT
        split
        · simp
        · unfold endT; split
          · simp
          · exact dec_ne _
      cases q with
      | nil => simp [joinL] at e9; exact hsp e9
      | cons y z =>
        rw [List.map_cons, joinL] at e9
        · simp at e9
        · simp
    rw [e, e15, hpk]
    have t1 : textT ⟨15, (ns.length : Int), ns.headD 0, ns.getLastD 0, packS ns⟩ 1 = Lib.decDigits (ns.headD 0) := by unfold textT; rw [if_pos ⟨rfl, hhead⟩]
    have t2 : textT ⟨15, (ns.length : Int), ns.headD 0, ns.getLastD 0, packS ns⟩ 2 = Lib.decDigits (ns.getLastD 0) := by unfold textT; rw [if_neg (by rintro ⟨h9, _⟩; cases h9), if_pos ⟨rfl, hlast⟩]
    have t4 : textT ⟨15, (ns.length : Int), ns.headD 0, ns.getLastD 0, packS ns⟩ 4 = writeP (packS ns) := by
      unfold textT
      rw [if_neg (by rintro ⟨h9, _⟩; cases h9), if_neg (by rintro ⟨h9, _⟩; cases h9), if_pos ⟨rfl, fun h9 => hpne (List.length_eq_zero_iff.1 h9)⟩]
      exact hpw
    have t8 : textT ⟨15, (ns.length : Int), ns.headD 0, ns.getLastD 0, packS ns⟩ 8 = Lib.decDigits ns.length := by
      unfold textT
      rw [if_neg (by rintro ⟨h9, _⟩; cases h9), if_neg (by rintro ⟨h9, _⟩; cases h9), if_neg (by rintro ⟨h9, _⟩; cases h9), if_pos ⟨rfl, b8⟩]
      rfl
    have e1 : toksT (⟨15, (ns.length : Int), ns.headD 0, ns.getLastD 0, packS ns⟩ : Tly) wordsT = [(1, [77, 73, 78]), (1, Lib.decDigits (ns.headD 0)), (1, [77, 65, 88]), (1, Lib.decDigits (ns.getLastD 0)), (1, [65, 76, 76]), (1, writeP (packS ns)), (1, [67, 79, 85, 78, 84]), (1, Lib.decDigits ns.length)] := by
      unfold wordsT
      rw [toksT, t1, if_neg (dec_ne _), toksT, t2, if_neg (dec_ne _), toksT, t4, if_neg hwne, toksT, t8, if_neg (dec_ne _), toksT]
    rw [e1]
    refine ⟨⟨4, rfl, by omega, by omega⟩, by simp [hn], fun j hj => ?_⟩
    have hj4 : j < 4 := by simp at hj; omega
    rcases (show j = 0 ∨ j = 1 ∨ j = 2 ∨ j = 3 by omega) with rfl | rfl | rfl | rfl
    · exact ⟨_, _, rfl, rfl, 1, word1, by omega, fun h9 => by omega⟩
    · exact ⟨_, _, rfl, rfl, 2, word2, by omega, fun h9 => by omega⟩
    · exact ⟨_, _, rfl, rfl, 4, word4, by omega, fun _ => ⟨rfl, hn, hc, hpl⟩⟩
    · exact ⟨_, _, rfl, rfl, 8, word8, by omega, fun h9 => by omega⟩
end Go.Proofs.YtihgmpebpkjmkaaGreatDoor

/-
  What missivelaw27.lives tells, over this seat's program.
-/
set_option linter.unusedVariables false
set_option linter.unusedSimpArgs false
namespace Go.Proofs.YtihgmpebpkjmkaaGreatDoor
open Go.RowKit Go.Proofs.Nst

theorem rowG_litT {α : Type} {c : α → List Value} {Fit : α → Prop} (w : World) (t : TypeId) (l : List α) (cs : Array Value) (hcs : flatG c l = cs.toList) (hl : l.length ≤ 9223372036854775807) (hf : ∀ x ∈ l, Fit x) (n : Nat) (hn : n = l.length) :
    RowG c Fit (w.alloc (.cells cs t)) (.slice (some ⟨w.heap.size, 0, none⟩) n n) l := by
  subst hn
  refine ⟨_, _, rfl, hl, hf, Or.inr ⟨w.heap.size, 0, rfl, by simp, fun j u hj => ?_⟩⟩
  rw [Nat.zero_add, Blk.cell (Blk.new w t cs)]
  rw [hcs] at hj
  simpa using hj
def t0 : Tly := ⟨15, 4, 2, 9, [(2, 4), (9, 9)]⟩
def t9 : Tly := ⟨15, 0, 0, 0, []⟩
def x0 : ByteArray := ⟨#[77, 73, 78, 32, 50, 32, 77, 65, 88, 32, 57, 32, 65, 76, 76, 32, 50, 58, 52, 44, 57, 32, 67, 79, 85, 78, 84, 32, 52]⟩
def x9 : ByteArray := ⟨#[67, 79, 85, 78, 84, 32, 48]⟩
def xc : ByteArray := ⟨#[67, 111, 117, 110, 116]⟩
def xm : ByteArray := ⟨#[77, 73, 78, 32, 50]⟩
theorem of_l : ofR 15 [2, 3, 4, 9] = (t0, 0) := by decide +kernel
theorem write_l : writeT t0 = (x0.data.toList, 0) := by decide +kernel
theorem parse_l : parseT 15 x0.data.toList = (t0, 0) := by decide +kernel
theorem of_e : ofR 15 [] = (t9, 0) := by decide +kernel
theorem write_e : writeT t9 = (x9.data.toList, 0) := by decide +kernel
theorem word_c : wordR xc.data.toList = (8, 0) := by decide +kernel
theorem parse_m : parseT 15 xm.data.toList = (zT, 7) := by decide +kernel
theorem of_z : ofR 1 [0] = (zT, 1) := by decide +kernel
theorem right_l : rightT t0 = true := by decide +kernel
/-- The tables that a tally leans on. -/
structure TabY (w : World) : Prop where
  err : ErrN w
  pow : PowT w
  wtab : WTab w
theorem TabY.below {w w' : World} (h : TabY w) (hb : Below w.heap.size w w') : TabY w' := ⟨h.err.below hb, h.pow.below hb, h.wtab.below hb⟩
theorem fit0 : FitT t0 := ⟨by decide, ⟨by decide, by decide⟩, by decide, by decide⟩
theorem fit9 : FitT t9 := ⟨by decide, ⟨by decide, by decide⟩, by decide, by decide⟩
theorem of_lw (W : World) : Calls Tryz.prog 5 #[.int .u8 15, .slice (some ⟨W.heap.size, 0, none⟩) 4 4] (W.alloc (.cells #[.int .u32 2, .int .u32 3, .int .u32 4, .int .u32 9] 25)) fun e w' => ∃ a c, e = .returned (.tuple #[.agg #[.int .u8 15, .int .i64 4, .int .u32 2, .int .u32 9, .slice a 2 c], .int .i64 0]) ∧ RowSp w' (.slice a 2 c) t0.all ∧ Below W.heap.size W w' := by
  refine (of_any 15 _ [2, 3, 4, 9] _ (rowG_litT W 25 [2, 3, 4, 9] #[.int .u32 2, .int .u32 3, .int .u32 4, .int .u32 9] rfl (by decide) (by decide) 4 rfl) (by decide) (by decide)).mono ?_
  rw [of_l]
  rintro e w' ⟨v', rfl, hr, hb⟩
  obtain ⟨a, c, rfl, _⟩ := id hr
  exact ⟨a, c, rfl, hr, belows' ((Below.refl _ W).alloc (Nat.le_refl _) _) hb⟩
theorem of_ew (W : World) : Calls Tryz.prog 5 #[.int .u8 15, .slice none 0 0] W fun e w' => ∃ a c, e = .returned (.tuple #[.agg #[.int .u8 15, .int .i64 0, .int .u32 0, .int .u32 0, .slice a 0 c], .int .i64 0]) ∧ RowSp w' (.slice a 0 c) t9.all ∧ Below W.heap.size W w' := by
  refine (of_any 15 _ [] _ (RowG.nil _ _ _) (by decide) (by decide)).mono ?_
  rw [of_e]
  rintro e w' ⟨v', rfl, hr, hb⟩
  obtain ⟨a, c, rfl, _⟩ := id hr
  exact ⟨a, c, rfl, hr, hb⟩
theorem of_zw (W : World) : Calls Tryz.prog 5 #[.int .u8 1, .slice (some ⟨W.heap.size, 0, none⟩) 1 1] (W.alloc (.cells #[.int .u32 0] 25)) fun e w' => ∃ a c, e = .returned (.tuple #[.agg #[.int .u8 0, .int .i64 0, .int .u32 0, .int .u32 0, .slice a 0 c], .int .i64 1]) ∧ Below W.heap.size W w' := by
  refine (of_any 1 _ [0] _ (rowG_litT W 25 [0] #[.int .u32 0] rfl (by decide) (by decide) 1 rfl) (by decide) (by decide)).mono ?_
  rw [of_z]
  rintro e w' ⟨v', rfl, hr, hb⟩
  obtain ⟨a, c, rfl, _⟩ := id hr
  exact ⟨a, c, rfl, belows' ((Below.refl _ W).alloc (Nat.le_refl _) _) hb⟩
theorem write_lw (a : Option Addr) (c : Nat) (W : World) (ht : TabY W) (h : RowSp W (.slice a 2 c) t0.all) : Calls Tryz.prog 6 #[.agg #[.int .u8 15, .int .i64 4, .int .u32 2, .int .u32 9, .slice a 2 c]] W fun e w' => e = .returned (.tuple #[.string ⟨#[77, 73, 78, 32, 50, 32, 77, 65, 88, 32, 57, 32, 65, 76, 76, 32, 50, 58, 52, 44, 57, 32, 67, 79, 85, 78, 84, 32, 52]⟩, .int .i64 0]) ∧ Below W.heap.size W w' := by
  have := twrite_any t0 (.slice a 2 c) W fit0 h (by decide) ht.pow ht.wtab
  rw [write_l] at this
  exact this
theorem write_ew (a : Option Addr) (c : Nat) (W : World) (ht : TabY W) (h : RowSp W (.slice a 0 c) t9.all) : Calls Tryz.prog 6 #[.agg #[.int .u8 15, .int .i64 0, .int .u32 0, .int .u32 0, .slice a 0 c]] W fun e w' => e = .returned (.tuple #[.string ⟨#[67, 79, 85, 78, 84, 32, 48]⟩, .int .i64 0]) ∧ Below W.heap.size W w' := by
  have := twrite_any t9 (.slice a 0 c) W fit9 h (by decide) ht.pow ht.wtab
  rw [write_e] at this
  exact this
theorem word_cw (W : World) (ht : TabY W) : Calls Tryz.prog 8 #[.string ⟨#[67, 111, 117, 110, 116]⟩] W fun e w' => e = .returned (.tuple #[.int .u8 8, .int .i64 0]) ∧ Below W.heap.size W w' := by
  have := word_any xc W ht.wtab (by decide)
  rw [word_c] at this
  exact this
end Go.Proofs.YtihgmpebpkjmkaaGreatDoor

/-
  Tallies that came in, what the second form's bound says of them, and the table of a tally's words out of what the row lays.
-/
set_option linter.unusedVariables false
set_option linter.unusedSimpArgs false
namespace Go.Proofs.YtihgmpebpkjmkaaGreatDoor
open Go.ChangeShapes Go.WideShapes Go.RowKit Go.Proofs.Nst Go.Lib

theorem gWords : Tryz.prog.globalNamed "missive/tally.words" = some 0 := by kernel_rfl
theorem yWords : (Tryz.prog.globals[0]?).map (·.type) = some 62 := by kernel_rfl
theorem cPairW : Tryz.prog.cellsOf 61 = 2 := by kernel_rfl
theorem cStrW : Tryz.prog.cellsOf 9 = 1 := by kernel_rfl
theorem cWant : Tryz.prog.cellsOf 24 = 1 := by kernel_rfl
theorem words_laid : (Rows.laid_missive_tally_words : DataW Unit) = .agg (wordsT.map fun p => .agg [.lit (.string p.1), .lit (.int .u8 (p.2 : Int))]) := by kernel_rfl
theorem two_ofW {α : Type} {l : List α} (h : l.length = 2) : ∃ a b, l = [a, b] := by
  match l, h with
  | [a, b], _ => exact ⟨a, b, rfl⟩

/-- A struct of a text and a number, cell for cell. -/
theorem pair_ofW {H : Type} {enc : TypeId × Value → H} {w : World} {base : Nat} {sp : Nat → Bool} {held : Bool} {fuel : Nat} {cs : List Value} {s : List UInt8} {z : Int} {p : List MemPlace}
    (h : DataW.trod enc Tryz.prog w base sp held fuel 61 cs = some (.agg [.lit (.string s), .lit (.int .u8 z)], p)) : cs = [.string (bts s), .int .u8 z] := by
  obtain ⟨xs, n, rfl, hx, hl, hxl, hall⟩ := DataW.trod_struct Tryz.underlying61 h
  rw [cPairW] at hl
  have hxs : xs.map (·.1) = [.lit (.string s), .lit (.int .u8 z)] := by
    have := congrArg Prod.fst hx
    simpa using this.symm
  obtain ⟨x0, x1, rfl⟩ := two_ofW (show xs.length = 2 by have := congrArg List.length hxs; simpa using this)
  obtain ⟨v0, v1, rfl⟩ := two_ofW hl
  simp only [List.map_cons, List.map_nil, List.cons.injEq, and_true] at hxs
  have h0 := hall 0 _ rfl
  have h1 := hall 1 _ rfl
  simp only [List.getElem?_cons_zero, List.getElem?_cons_succ] at h0 h1
  obtain ⟨t, e0, hx0, _⟩ := DataW.trod_string Tryz.underlying9 h0
  obtain ⟨m, e1, hx1, _⟩ := DataW.trod_int Tryz.underlying24 h1
  rw [hx0, hx1] at hxs
  simp only [DataW.lit.injEq, Lit.string.injEq, Lit.int.injEq, true_and] at hxs
  obtain ⟨hs, hz⟩ := hxs
  subst hs
  subst hz
  have f0 : ([v0, v1].drop 0).take (Tryz.prog.cellsOf 9) = [.string t] := e0
  have f1 : ([v0, v1].drop 1).take (Tryz.prog.cellsOf 24) = [.int .u8 m] := e1
  rw [cStrW] at f0
  rw [cWant] at f1
  simp at f0 f1
  rw [f0, f1, bts_toList]

theorem words_cells {W : World} (h : VarReads Tryz.prog W "missive/tally.words" Rows.laid_missive_tally_words) : ∀ j v, wordsC[j]? = some v → W.cell? ⟨0, j, none⟩ = some v := by
  rw [words_laid] at h
  obtain ⟨g, t, cs, fuel, p, hg, hty, hvar, hd⟩ := h
  obtain rfl := Option.some.inj (gWords.symm.trans hg)
  obtain rfl := Option.some.inj (yWords.symm.trans hty)
  have key : ∀ i (hi : i < 4), cs[2 * i]? = some (.string (bts (wordsT[i]'hi).1)) ∧ cs[2 * i + 1]? = some (.int .u8 ((wordsT[i]'hi).2 : Int)) := by
    intro i hi
    obtain ⟨fuel', d, q, hdi, he⟩ := array_elem Tryz.underlying62 hd i hi
    rw [List.getElem?_map, List.getElem?_eq_getElem (by simpa [wordsT] using hi)] at hdi
    simp only [Option.map_some, Option.some.injEq] at hdi
    subst hdi
    rw [cPairW] at he
    have hcs := pair_ofW he
    have e0 := congrArg (·[0]?) hcs
    have e1 := congrArg (·[1]?) hcs
    simp only [List.getElem?_take, List.getElem?_drop, List.getElem?_cons_zero, List.getElem?_cons_succ] at e0 e1
    rw [if_pos (by omega), show i * 2 + 0 = 2 * i by omega] at e0
    rw [if_pos (by omega), show i * 2 + 1 = 2 * i + 1 by omega] at e1
    constructor
    · rw [← Array.getElem?_toList]; exact e0
    · rw [← Array.getElem?_toList]; exact e1
  intro j v hj
  rw [World.var?_cell hg hvar j]
  have hj8 : j < 8 := by
    rcases Nat.lt_or_ge j 8 with h | h
    · exact h
    · rw [List.getElem?_eq_none (by simpa [wordsC, wordsT] using h)] at hj; simp at hj
  obtain ⟨i, hi, hij⟩ : ∃ i, i < 4 ∧ (j = 2 * i ∨ j = 2 * i + 1) := ⟨j / 2, by omega, by omega⟩
  have hk := key i hi
  rcases hij with rfl | rfl
  · rw [hk.1, ← hj]
    rcases (show i = 0 ∨ i = 1 ∨ i = 2 ∨ i = 3 by omega) with rfl | rfl | rfl | rfl <;> rfl
  · rw [hk.2, ← hj]
    rcases (show i = 0 ∨ i = 1 ∨ i = 2 ∨ i = 3 by omega) with rfl | rfl | rfl | rfl <;> rfl

theorem wtab_of {W : World} (h : VarReads Tryz.prog W "missive/tally.words" Rows.laid_missive_tally_words) : WTab W := by
  have hc := words_cells h
  refine ⟨?_, hc⟩
  have h0 := hc 0 _ rfl
  rcases Nat.lt_or_ge 0 W.heap.size with h' | h'
  · exact h'
  · simp [World.cell?, Array.getElem?_eq_none h'] at h0
theorem tabY_of {W : World} (h1 : VarReads Tryz.prog W "strconv.ErrSyntax" Rows.laid_strconv_ErrSyntax) (h2 : VarReads Tryz.prog W "strconv.ErrRange" Rows.laid_strconv_ErrRange) (h3 : VarReads Tryz.prog W "internal/strconv.uint64pow10" Rows.laid_internal_strconv_uint64pow10) (h4 : VarReads Tryz.prog W "missive/tally.words" Rows.laid_missive_tally_words) : TabY W :=
  ⟨errN_of h1 h2, powT_of h3, wtab_of h4⟩
theorem wfT8 {n : Int} (h : (Lit.int .u8 n).wf = true) : ∃ k : Nat, n = (k : Int) ∧ k ≤ 255 := by
  simp only [Lit.wf, Bool.and_eq_true, decide_eq_true_eq] at h
  have h1 : IntKind.u8.min = 0 := by decide
  have h2 : IntKind.u8.max = 255 := by decide
  exact ⟨n.toNat, by omega, by omega⟩
theorem wfT32 {n : Int} (h : (Lit.int .u32 n).wf = true) : ∃ k : Nat, n = (k : Int) ∧ k ≤ 4294967295 := by
  simp only [Lit.wf, Bool.and_eq_true, decide_eq_true_eq] at h
  have h1 : IntKind.u32.min = 0 := by decide
  have h2 : IntKind.u32.max = 4294967295 := by decide
  exact ⟨n.toNat, by omega, by omega⟩
theorem wfT64 {n : Int} (h : (Lit.int .i64 n).wf = true) : -9223372036854775808 ≤ n ∧ n ≤ 9223372036854775807 := by
  simp only [Lit.wf, Bool.and_eq_true, decide_eq_true_eq] at h
  have h1 : IntKind.i64.min = -9223372036854775808 := by decide
  have h2 : IntKind.i64.max = 9223372036854775807 := by decide
  omega

set_option maxRecDepth 100000 in
/-- A tally that came in. -/
theorem open_tly {H : Type} {enc : TypeId × Value → H} {W : World} {base base' : Nat} {held : Bool} {fuel : Nat} {v : Value} {x : DataW H × List MemPlace} {r : Reach} (hv : Value.okWide Tryz.prog W r base' 28 v)
    (hf : DataW.trod enc Tryz.prog W base (fun _ => true) held fuel 28 v.cells.toList = some x) (hbk : Rows.uptoBulk x.1 ≤ 1048576) : ∃ (b : Tly) (a : Option Addr) (n cap : Nat), v = tlV b (.slice a n cap) ∧ RowSp W (.slice a n cap) b.all ∧ FitT b ∧ b.all.length + 1 ≤ Rows.uptoBulk x.1 := by
  obtain ⟨cs, rfl, _⟩ := okWide_struct Tryz.underlying28 hv
  obtain ⟨xs, n, _, rfl, hl, hlen, hx⟩ := DataW.trod_struct Tryz.underlying28 hf
  have c5 : (Tryz.prog).cellsOf 28 = 5 := by kernel_rfl
  have cw1 : (Tryz.prog).cellsOf 24 = 1 := by kernel_rfl
  have ci1 : (Tryz.prog).cellsOf 3 = 1 := by kernel_rfl
  have cu1 : (Tryz.prog).cellsOf 25 = 1 := by kernel_rfl
  have cm1 : (Tryz.prog).cellsOf 26 = 1 := by kernel_rfl
  simp only [Value.cells] at hl hx
  rw [c5] at hl
  match xs, hlen with
  | [y0, y1, y2, y3, y4], _ =>
    have h0 := hx 0 _ rfl
    have h1 := hx 1 _ rfl
    have h2 := hx 2 _ rfl
    have h3 := hx 3 _ rfl
    have h4 := hx 4 _ rfl
    obtain ⟨ls⟩ := cs
    simp only at hl h0 h1 h2 h3 h4
    match ls, hl with
    | [u0, u1, u2, u3, u4], _ =>
      simp [cw1, ci1, cu1, cm1] at h0 h1 h2 h3 h4
      obtain ⟨s0, e0, f0, g0⟩ := DataW.trod_int Tryz.underlying24 h0
      obtain ⟨s1, e1, f1, g1⟩ := DataW.trod_int Tryz.underlying3 h1
      obtain ⟨s2, e2, f2, g2⟩ := DataW.trod_int Tryz.underlying25 h2
      obtain ⟨s3, e3, f3, g3⟩ := DataW.trod_int Tryz.underlying25 h3
      simp only [List.map_cons, List.map_nil, Rows.uptoBulk, Rows.uptoBulkAll] at hbk
      obtain ⟨v, l, e4, hr, _, hb⟩ := trod_rowSp h4
      simp only [List.cons.injEq, and_true] at e0 e1 e2 e3 e4
      subst e0 e1 e2 e3 e4
      obtain ⟨k0, rfl, q0⟩ := wfT8 g0
      have q1 := wfT64 g1
      obtain ⟨k2, rfl, q2⟩ := wfT32 g2
      obtain ⟨k3, rfl, q3⟩ := wfT32 g3
      obtain ⟨a, cap, hu, _⟩ := id hr
      subst hu
      refine ⟨⟨k0, s1, k2, k3, l⟩, a, _, cap, rfl, hr, ⟨q0, q1, q2, q3⟩, ?_⟩
      simp only [List.map_cons, List.map_nil, Rows.uptoBulk, Rows.uptoBulkAll]
      show l.length + 1 ≤ _
      omega
end Go.Proofs.YtihgmpebpkjmkaaGreatDoor
