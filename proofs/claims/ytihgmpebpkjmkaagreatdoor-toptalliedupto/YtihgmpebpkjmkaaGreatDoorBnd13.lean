/-
  What lex.stringOf and textOf do, over this seat's program.
-/
import Derived.Test.YtihgmpebpkjmkaaGreatDoorBnd12
import Derived.Test.YtihgmpebpkjmkaaGreatDoorPow
import Derived.Test.YtihgmpebpkjmkaaGreatDoorRwg
import Derived.Test.YtihgmpebpkjmkaaGreatDoorApg
set_option linter.unusedVariables false
namespace Go.Proofs.YtihgmpebpkjmkaaGreatDoor
open Go.RowKit Go.Proofs.Lx

/-- How a token is written, or that it is none, as Go tells it. -/
def FtxV (o : Option (List UInt8)) (v : Value) : Prop := match o with
  | some y => v = .tuple #[.string (bts y), .bool true]
  | none => ∃ x, v = .tuple #[.string x, .bool false]
theorem quote_len {t q : List UInt8} (h : quoteL t = some q) : q.length ≤ 2 * t.length + 2 := by
  unfold quoteL at h
  split at h
  · injection h with h; subst h
    have := esc_len t
    simp only [List.length_cons, List.length_append, List.length_nil]; omega
  · cases h

theorem atomL_iff : ∀ l : List UInt8, (atomL l = l.length) ↔ l.all isA = true
  | [] => by simp [atomL]
  | c :: r => by
    have ih := atomL_iff r
    simp only [atomL, List.all_cons, List.length_cons]
    cases hc : isA c with
    | true => simp [ih]
    | false => simp

end Go.Proofs.YtihgmpebpkjmkaaGreatDoor

/-
  Rows of tokens, and what lex.Write does, over this seat's program.
-/
set_option linter.unusedVariables false
set_option linter.unusedSimpArgs false
namespace Go.Proofs.YtihgmpebpkjmkaaGreatDoor
open Go.RowKit Go.Proofs.Lx

def FitTok (t : Tok) : Prop := t.1 ≤ 255 ∧ t.2.length ≤ 4294967296
abbrev RowT := RowG tkC FitTok
theorem RowT.tok {w W : World} {a : Option Addr} {n cap : Nat} {l : List Tok} (h : RowT w (.slice a n cap) l) (hb : Below w.heap.size w W) {k : Nat} (hk : k < l.length) :
    ∃ g off, a = some ⟨g, off, none⟩ ∧ g < W.heap.size ∧ FitTok l[k] ∧ W.cell? ⟨g, off + k * 2, none⟩ = some (.int .u8 (l[k].1 : Int)) ∧ W.cell? ⟨g, off + k * 2 + 1, none⟩ = some (.string (bts l[k].2)) := by
  obtain ⟨g, off, cap', hv, hlt, hc⟩ := RowG.at tkC_len (h.below hb) hk
  obtain ⟨_, _, _, _, hfit, _⟩ := h
  injection hv with e1 _ _
  have h0 := hc 0 (by omega)
  have h1 := hc 1 (by omega)
  exact ⟨g, off, e1, hlt, hfit _ (List.getElem_mem _), h0, h1⟩
/-- What is written, or the error, as Go tells it. -/
def wrR (o : Option (List UInt8)) : Value := match o with
  | some q => .tuple #[.string (bts q), .int .i64 0]
  | none => .tuple #[.string ⟨#[]⟩, .int .i64 2]
/-- How many bytes the tokens' texts have at most. -/
def wMost (l : List Tok) : Nat := (l.map fun t => 2 * t.2.length + 24).sum
theorem wMost_take {l : List Tok} {k : Nat} (h : k < l.length) : wMost (l.take (k + 1)) = wMost (l.take k) + (2 * l[k].2.length + 24) := by
  unfold wMost
  rw [List.take_succ_eq_append_getElem h, List.map_append, List.sum_append_nat]
  simp only [List.map_cons, List.map_nil, List.sum_cons, List.sum_nil, Nat.add_zero]
theorem wMost_le {l : List Tok} (k : Nat) : wMost (l.take k) ≤ wMost l := by
  have : wMost l = wMost (l.take k) + wMost (l.drop k) := by
    unfold wMost
    rw [← List.sum_append_nat, ← List.map_append, List.take_append_drop]
  omega
theorem textA_len {t : Tok} {x : List UInt8} (h : textA t = some x) : x.length + 1 ≤ 2 * t.2.length + 24 := by
  obtain ⟨k, t⟩ := t
  unfold textA at h
  simp only at h
  split at h
  · split at h
    · injection h with h; subst h; simp only; omega
    · cases h
  split at h
  · unfold strA at h
    split at h
    · rename_i q hq
      injection h with h; subst h
      have := quote_len hq
      simp only; omega
    · split at h
      · injection h with h; subst h
        have := decL_len 8 t.length (by omega)
        simp only [List.length_cons, List.length_append, List.length_nil]; omega
      · cases h
  split at h
  · split at h
    · injection h with h; subst h; simp
    · cases h
  split at h
  · split at h
    · injection h with h; subst h; simp
    · cases h
  · cases h
/-- What is still to be written, behind k tokens of which acc was made, the last one of the kind a. -/
def WrI (l : List Tok) (k a : Nat) (acc : List UInt8) : Prop := writeA 0 l = (writeA a (l.drop k)).map fun y => acc ++ y
theorem WrI.next {l : List Tok} {k a : Nat} {acc : List UInt8} (h : WrI l k a acc) (hk : k < l.length) {x : List UInt8} (hx : textA l[k] = some x) :
    WrI l (k + 1) l[k].1 (acc ++ ((if a ≠ 0 ∧ a ≠ 3 ∧ l[k].1 ≠ 4 then [32] else []) ++ x)) := by
  unfold WrI at *
  rw [h, List.drop_eq_getElem_cons hk, writeA, hx]
  simp only [Option.map_map]
  congr 1
  funext y
  simp
theorem WrI.no {l : List Tok} {k a : Nat} {acc : List UInt8} (h : WrI l k a acc) (hk : k < l.length) (hx : textA l[k] = none) : writeA 0 l = none := by
  unfold WrI at h
  rw [h, List.drop_eq_getElem_cons hk, writeA, hx]; rfl
theorem WrI.fin {l : List Tok} {k a : Nat} {acc : List UInt8} (h : WrI l k a acc) (hk : l.length ≤ k) : writeA 0 l = some acc := by
  unfold WrI at h
  rw [h, List.drop_of_length_le hk, writeA]; simp

end Go.Proofs.YtihgmpebpkjmkaaGreatDoor

/-
  What lex.Tokens does, over this seat's program.
-/
set_option linter.unusedVariables false
set_option linter.unusedSimpArgs false
namespace Go.Proofs.YtihgmpebpkjmkaaGreatDoor
open Go.RowKit Go.Proofs.Lx

theorem tokInfo : (Tryz.prog.info? 41).map (fun i => (i.zero, i.size, i.bytes)) = some (some (.agg #[.int .u8 0, .string ⟨#[]⟩]), 2, 24) := by kernel_rfl
theorem tkC_one (x : Tok) : ∀ u ∈ tkC x, u.oneCell' = true := by intro u hu; simp [tkC] at hu; rcases hu with rfl | rfl <;> rfl
/-- A token is put behind a row of one's own, where it lies in a box ahead of the copy that is put there: the box stays. -/
theorem run_appT (w : World) (B : Nat) (v : Value) (l : List Tok) (p : Tok) (ty : TypeId) (hown : w.ownsRow B 41 2 v l.length (flatG tkC l)) (hl : l.length ≤ 4194304) (hB : B ≤ w.heap.size) :
    ∃ v' w', (Builtin.append_ #[34, 34] ty #[v, .slice (some ⟨w.heap.size + 1, 0, none⟩) 1 1]).run Tryz.prog ((w.alloc (.cells #[.int .u8 (p.1 : Int), .string (bts p.2)] 41)).alloc (.cells #[.int .u8 (p.1 : Int), .string (bts p.2)] 41)) = .ok v' w' ∧ w'.ownsRow B 41 2 v' (l ++ [p]).length (flatG tkC (l ++ [p])) ∧ Below B w w' ∧ Blk w' w.heap.size 41 #[.int .u8 (p.1 : Int), .string (bts p.2)] := by
  have a1 := (Below.refl w.heap.size w).alloc (Nat.le_refl _) (Obj.cells #[.int .u8 (p.1 : Int), .string (bts p.2)] 41)
  have a2 := (Below.refl (w.alloc (Obj.cells #[.int .u8 (p.1 : Int), .string (bts p.2)] 41)).heap.size (w.alloc (Obj.cells #[.int .u8 (p.1 : Int), .string (bts p.2)] 41))).alloc (Nat.le_refl _) (Obj.cells #[.int .u8 (p.1 : Int), .string (bts p.2)] 41)
  have k1 := (Blk.new w 41 #[.int .u8 (p.1 : Int), .string (bts p.2)]).below a2
  have k2 := Blk.new (w.alloc (Obj.cells #[.int .u8 (p.1 : Int), .string (bts p.2)] 41)) 41 #[.int .u8 (p.1 : Int), .string (bts p.2)]
  simp only [World.size_alloc] at k2
  have a3 := a1.trans (a2.mono a1.size)
  obtain ⟨v', w', hrun, h2, h3, h4⟩ := run_appGg tkC 2 24 tkC_len 41 34 _ Tryz.underlying34 tokInfo rfl (by decide) (by decide) (by decide) tkC_one _ B (w.heap.size + 1) v l p ty (own_below hown a3) hl (Nat.le_trans hB a3.size) k2
  exact ⟨v', w', hrun, h2, (a3.mono hB).trans h3, blk_grownT k1 h4 (fun e => by have := (hown.lt _ e).2; omega)⟩
/-- Tokens that are answered: in a row of its own. -/
def OutK (w : World) (v : Value) (l : List Tok) : Prop := w.ownsRow 0 41 2 v l.length (flatG tkC l) ∧ (∀ t ∈ l, FitTok t) ∧ l.length ≤ 4194304
theorem OutK.nil (w : World) : OutK w (.slice none 0 0) [] := ⟨World.ownsRow_nil _ _ _ _, by simp, by simp⟩
theorem OutK.row {w : World} {v : Value} {l : List Tok} (h : OutK w v l) : RowT w v l := rowG_of_own tkC_len h.1 (by have := h.2.2; omega) h.2.1
theorem OutK.below {w w' : World} {v : Value} {l : List Tok} (h : OutK w v l) (hb : Below w.heap.size w w') : OutK w' v l := ⟨own_below h.1 hb, h.2⟩

theorem toksA_end {n a : Nat} {r : List UInt8} (h : spL r = r.length) : toksA (n + 1) r a = some [] := by rw [toksA, if_pos h]
theorem toksA_no {n a : Nat} {r : List UInt8} (h : spL r ≠ r.length) (ht : tokA (r.drop (spL r)) = none) : toksA (n + 1) r a = none := by rw [toksA, if_neg h, ht]
theorem toksA_bad {n a : Nat} {r : List UInt8} {t : Tok} {z : Nat} (h : spL r ≠ r.length) (ht : tokA (r.drop (spL r)) = some (t, z)) (h0 : spL r = 0) (hm : mayT a t.1 = false) : toksA (n + 1) r a = none := by
  rw [toksA, if_neg h, ht]
  simp only
  rw [if_pos ⟨h0, hm⟩]
theorem toksA_next {n a : Nat} {r : List UInt8} {t : Tok} {z : Nat} (h : spL r ≠ r.length) (ht : tokA (r.drop (spL r)) = some (t, z)) (hm : spL r = 0 → mayT a t.1 = true) : toksA (n + 1) r a = (toksA n (r.drop (spL r + z)) t.1).map (t :: ·) := by
  rw [toksA, if_neg h, ht]
  simp only
  rw [if_neg (by rintro ⟨h0, h1⟩; rw [hm h0] at h1; cases h1)]
/-- What is still to be read, behind k bytes of which acc was made, the last one of the kind a. -/
def TkI (s : ByteArray) (k a : Nat) (acc : List Tok) : Prop := ∃ n, (s.data.toList.drop k).length < n ∧ toksA (s.data.toList.length + 1) s.data.toList 3 = (toksA n (s.data.toList.drop k) a).map fun y => acc ++ y
theorem TkI.fin {s : ByteArray} {k a : Nat} {acc : List Tok} (h : TkI s k a acc) (hs : spL (s.data.toList.drop k) = (s.data.toList.drop k).length) : tokensL s.data.toList = if 4096 < acc.length then ([], 15) else (acc, 0) := by
  obtain ⟨n, hn, h⟩ := h
  cases n with
  | zero => omega
  | succ n =>
    rw [toksA_end hs] at h
    unfold tokensL
    rw [h]; simp
theorem TkI.no {s : ByteArray} {k a : Nat} {acc : List Tok} (h : TkI s k a acc) (hs : spL (s.data.toList.drop k) ≠ (s.data.toList.drop k).length) (ht : tokA (s.data.toList.drop (k + spL (s.data.toList.drop k))) = none) : tokensL s.data.toList = ([], 7) := by
  obtain ⟨n, hn, h⟩ := h
  cases n with
  | zero => omega
  | succ n =>
    rw [toksA_no hs (by rw [List.drop_drop]; exact ht)] at h
    unfold tokensL
    rw [h]; rfl
theorem TkI.bad {s : ByteArray} {k a : Nat} {acc : List Tok} {t : Tok} {z : Nat} (h : TkI s k a acc) (hs : spL (s.data.toList.drop k) ≠ (s.data.toList.drop k).length) (ht : tokA (s.data.toList.drop (k + spL (s.data.toList.drop k))) = some (t, z)) (h0 : spL (s.data.toList.drop k) = 0) (hm : mayT a t.1 = false) : tokensL s.data.toList = ([], 7) := by
  obtain ⟨n, hn, h⟩ := h
  cases n with
  | zero => omega
  | succ n =>
    rw [toksA_bad hs (by rw [List.drop_drop]; exact ht) h0 hm] at h
    unfold tokensL
    rw [h]; rfl
theorem TkI.next {s : ByteArray} {k a : Nat} {acc : List Tok} {t : Tok} {z : Nat} (h : TkI s k a acc) (hs : spL (s.data.toList.drop k) ≠ (s.data.toList.drop k).length) (ht : tokA (s.data.toList.drop (k + spL (s.data.toList.drop k))) = some (t, z)) (hm : spL (s.data.toList.drop k) = 0 → mayT a t.1 = true) : TkI s (k + spL (s.data.toList.drop k) + z) t.1 (acc ++ [t]) := by
  obtain ⟨n, hn, h⟩ := h
  cases n with
  | zero => omega
  | succ n =>
    have hz := tokA_len ht
    rw [List.length_drop] at hz
    rw [toksA_next hs (by rw [List.drop_drop]; exact ht) hm, List.drop_drop, Option.map_map] at h
    refine ⟨n, ?_, ?_⟩
    · rw [List.length_drop] at hn ⊢; omega
    · rw [h, Nat.add_assoc]
      congr 1
      funext y
      simp
theorem take_snoc_lt {α : Type} {l : List α} {x : α} {m : Nat} (h : l.length < m) : (l ++ [x]).take m = l.take m ++ [x] := by
  rw [List.take_of_length_le (by rw [List.length_append]; simp; omega), List.take_of_length_le (by omega)]
theorem take_snoc_ge {α : Type} {l : List α} {x : α} {m : Nat} (h : m ≤ l.length) : (l ++ [x]).take m = l.take m := by
  rw [List.take_append_of_le_length h]
theorem below_alloc1 {w W : World} (h : Below w.heap.size w W) {o : Obj} : Below w.heap.size w (W.alloc o) := h.alloc h.size o
/-- What the frame of Tokens holds at its label. -/
def TkJ (s : ByteArray) (w : World) (a' : Act) (w' : World) : Prop :=
  ∃ (k a : Nat) (acc : List Tok) (v : Value) (u7 u8 u9 u10 u11 u12 u13 u14 u15 u16 u17 u18 u19 u20 u21 u22 u23 u24 u25 u26 u27 u28 u29 u30 u31 u32 u33 u34 u35 u36 u37 u38 u39 u40 u41 u42 u43 u44 u45 u46 u47 u48 u49 u50 u51 u52 u53 u54 u55 u56 : Value), a' = { tmps := #[.string s, undef, .slice none 0 0, .int .i64 0, v, .int .i64 k, .int .u8 a, u7, u8, u9, u10, u11, u12, u13, u14, u15, u16, u17, u18, u19, u20, u21, u22, u23, u24, u25, u26, u27, u28, u29, u30, u31, u32, u33, u34, u35, u36, u37, u38, u39, u40, u41, u42, u43, u44, u45, u46, u47, u48, u49, u50, u51, u52, u53, u54, u55, u56], defers := [] } ∧ k ≤ s.size ∧ a ≤ 4 ∧ Hid (TkI s k a acc) ∧ Hid (w'.ownsRow w.heap.size 41 2 v (acc.take 4097).length (flatG tkC (acc.take 4097))) ∧ Hid (Below w.heap.size w w')

set_option maxHeartbeats 600000 in
set_option maxRecDepth 100000 in
theorem tokens_any (s : ByteArray) (w : World) (hs : s.size ≤ 4294967296) :
    Calls Tryz.prog 7 #[.string s] w fun e w' => (∃ v, e = .returned (.tuple #[v, .int .i64 ((tokensL s.data.toList).2 : Int)]) ∧ OutK w' v (tokensL s.data.toList).1) ∧ Below w.heap.size w w' := by
  have HLN := hide (tokensL_len s.data.toList)
  have HSZ := hide (sizeL s)
  go_enter Tryz.func7, Tryz.ntmps7
  go_wp2
  refine wp_scope_one 0 (TkJ s w) (fun a' _ => s.size - (intOf (a'.tmps.getD 5 undef)).toNat) rfl ?_ ?_
  · intro hp
    go_wp2
    go_step3
    rename_i K hK
    exact hK _ _ (hp _ _ ⟨0, 3, [], .slice none 0 0, _, _, _, _, _, _, _, _, _, _, _, _, _, _, _, _, _, _, _, _, _, _, _, _, _, _, _, _, _, _, _, _, _, _, _, _, _, _, _, _, _, _, _, _, _, _, _, _, _, _, rfl, Nat.zero_le _, by omega, hide ⟨s.data.toList.length + 1, by simp, by simp⟩, hide (World.ownsRow_nil _ _ _ _), hide (Below.refl _ _)⟩)
  · rintro a' w' ⟨k, a, acc, v, u7, u8, u9, u10, u11, u12, u13, u14, u15, u16, u17, u18, u19, u20, u21, u22, u23, u24, u25, u26, u27, u28, u29, u30, u31, u32, u33, u34, u35, u36, u37, u38, u39, u40, u41, u42, u43, u44, u45, u46, u47, u48, u49, u50, u51, u52, u53, u54, u55, u56, rfl, hk, ha, HI, HO, HB⟩
    obtain ⟨A, cap, hv, _⟩ := own_sliceG (unhide HO)
    subst hv
    obtain ⟨L, hL⟩ : ∃ L, L = acc.take 4097 := ⟨_, rfl⟩
    rw [← hL] at HO ⊢
    obtain ⟨n, hn⟩ : ∃ n, n = L.length := ⟨_, rfl⟩
    rw [← hn] at HO ⊢
    have HL4 : Hid (n ≤ 4097) := hide (by rw [hn, hL, List.length_take]; omega)
    have HLA : Hid (4096 < n ↔ 4096 < acc.length) := hide (by rw [hn, hL, List.length_take]; omega)
    have HLL := hide hL
    have HNL := hide hn
    clear hL hn
    have HRL : Hid (∀ r, r = s.data.toList.drop k → spL r ≤ r.length ∧ r.length = s.size - k) := hide (fun r hr => ⟨spL_len r, by rw [hr, List.length_drop, unhide HSZ]⟩)
    obtain ⟨sp, hsp⟩ : ∃ sp, sp = spL (s.data.toList.drop k) := ⟨_, rfl⟩
    obtain ⟨r1, r2⟩ := unhide HRL _ rfl
    rw [← hsp] at r1
    have hks : k + sp ≤ s.size := by omega
    have HSP := hide (fun W => spaces_any (s.extract k s.size) W (by rw [ByteArray.size_extract]; omega))
    rw [toList_from, ← hsp] at HSP
    clear HRL
    by_cases hend : k + sp = s.size
    · have hbe : ((k : Int) + (sp : Int) == (s.size : Int)) = true := by rw [beq_iff_eq]; omega
      have HF := hide ((unhide HI).fin (by rw [← hsp, r2]; omega))
      clear r1 r2 hsp hend HI
      by_cases hbig : 4096 < n
      · have hbig' : 4096 < (n : Int) := by omega
        have HF2 : Hid (tokensL s.data.toList = ([], 15)) := hide (by rw [unhide HF, if_pos ((unhide HLA).1 hbig)])
        clear hbig HF HLA HO HL4
        go_wp2_with fail
        refine (unhide HSP _).mono ?_
        rintro e w1 ⟨rfl, h1⟩
        subst h1
        go_wp2
        simp only [Exit.jump]
        go_ret2
        exact ⟨⟨_, by rw [unhide HF2]; rfl, by rw [unhide HF2]; exact OutK.nil _⟩, unhide HB⟩
      · have hbig' : ¬ 4096 < (n : Int) := by omega
        have ha4 : ¬ 4096 < acc.length := fun h => hbig ((unhide HLA).2 h)
        have HF2 : Hid (tokensL s.data.toList = (acc, 0)) := hide (by rw [unhide HF, if_neg ha4])
        have HOK : Hid (OutK w' (.slice A n cap) acc) := hide (by
          have h1 := own_zero (unhide HO)
          rw [unhide HNL] at h1
          rw [unhide HNL]
          rw [unhide HLL, List.take_of_length_le (by omega)] at h1 ⊢
          refine ⟨h1, fun t ht => ?_, by omega⟩
          have := (unhide HLN).2
          rw [unhide HF2] at this
          have := this t ht
          rw [unhide HSZ] at this
          exact ⟨by omega, by omega⟩)
        clear hbig HF HLA HO HL4 ha4
        go_wp2_with fail
        refine (unhide HSP _).mono ?_
        rintro e w1 ⟨rfl, h1⟩
        subst h1
        go_wp2
        simp only [Exit.jump]
        go_ret2
        exact ⟨⟨_, by rw [unhide HF2]; rfl, by rw [unhide HF2]; exact unhide HOK⟩, unhide HB⟩
    · have hbe : ((k : Int) + (sp : Int) == (s.size : Int)) = false := by rw [beq_eq_false_iff_ne]; omega
      have hlt : k + sp < s.size := by omega
      have hne : spL (s.data.toList.drop k) ≠ (s.data.toList.drop k).length := by rw [← hsp, r2]; omega
      have HFI := hide (fun W => first_any (s.extract (k + sp) s.size) W (by rw [ByteArray.size_extract]; omega) (by rw [ByteArray.size_extract]; omega))
      rw [toList_from] at HFI
      have HI1 := hide (fun ht => (unhide HI).no hne (by rw [← hsp]; exact ht))
      have HI2 := hide (fun (t : Tok) z ht h0 hm => (unhide HI).bad (t := t) (z := z) hne (by rw [← hsp]; exact ht) (by rw [← hsp]; exact h0) hm)
      have HI3 := hide (fun (t : Tok) z ht hm => (unhide HI).next (t := t) (z := z) hne (by rw [← hsp]; exact ht) (by rw [← hsp]; exact hm))
      rw [← hsp] at HI3
      have HZ := hide (fun (t : Tok) z ht => tokA_len (l := s.data.toList.drop (k + sp)) (t := t) (z := z) ht)
      clear r1 r2 hne hsp HI hend
      cases ho : tokA (s.data.toList.drop (k + sp)) with
      | none =>
        rw [ho] at HFI
        have HF := hide (unhide HI1 ho)
        clear ho HI1 HI2 HI3 HZ HLA HO HL4
        go_wp2_with fail
        refine (unhide HSP _).mono ?_
        rintro e w1 ⟨rfl, h1⟩
        subst h1
        go_wp2_with fail
        refine (unhide HFI _).mono ?_
        rintro e w2 ⟨⟨v2, rfl, hv⟩, b2⟩
        simp only [FirV, tkV] at hv
        obtain ⟨k2, x2, rfl⟩ := hv
        have HB2 := hide ((unhide HB).trans (b2.mono (unhide HB).size))
        clear b2 HFI HSP
        go_wp2
        simp only [Exit.jump]
        go_ret2
        exact ⟨⟨_, by rw [unhide HF]; rfl, by rw [unhide HF]; exact OutK.nil _⟩, below_alloc1 (unhide HB2)⟩
      | some p =>
        obtain ⟨t, z⟩ := p
        rw [ho] at HFI
        obtain ⟨hz1, hz2, hz3, hz4, hz5⟩ := unhide HZ t z ho
        have hz6 : k + sp + z ≤ s.size := by rw [List.length_drop, unhide HSZ] at hz2; omega
        have HI4 := hide (unhide HI2 t z ho)
        have HI5 := hide (unhide HI3 t z ho)
        have zn : ((z : Int) == 0) = false := by rw [beq_eq_false_iff_ne]; omega
        clear ho HI1 HI2 HI3 HZ HLA hz2 hz3 hz4
        have hz7 : t.1 ≤ 255 := by omega
        by_cases hs0 : sp = 0
        · have HS0 := hide hs0
          clear hs0
          cases hm : mayT a t.1 with
          | false =>
            have HM := hide hm
            clear hm
            have e0 : ((k : Int) + (sp : Int) == (k : Int)) = true := by rw [beq_iff_eq]; have := unhide HS0; omega
            have HMT := hide (fun W => mayTouch_any a t.1 W)
            rw [unhide HM] at HMT
            have HF := hide (unhide HI4 (unhide HS0) (unhide HM))
            clear HI4 HI5 HL4 HO
            obtain ⟨tk, tx⟩ := t
            simp only at *
            go_wp2_with fail
            refine (unhide HSP _).mono ?_
            rintro e w1 ⟨rfl, h1⟩
            subst h1
            go_wp2_with fail
            refine (unhide HFI _).mono ?_
            rintro e w2 ⟨⟨v2, rfl, hv⟩, b2⟩
            simp only [FirV, tkV] at hv
            subst hv
            have HB2 := hide ((unhide HB).trans (b2.mono (unhide HB).size))
            clear b2 HFI HSP
            go_wp2_with fail
            refine (unhide HMT _).mono ?_
            rintro e w3 ⟨rfl, h3⟩
            subst h3
            go_wp2
            simp only [Exit.jump]
            go_ret2
            exact ⟨⟨_, by rw [unhide HF]; rfl, by rw [unhide HF]; exact OutK.nil _⟩, below_alloc1 (unhide HB2)⟩
          | true =>
            have HM := hide hm
            clear hm
            by_cases hbig : n ≤ 4096
            · have e0 : ((k : Int) + (sp : Int) == (k : Int)) = true := by rw [beq_iff_eq]; have := unhide HS0; omega
              have HMT := hide (fun W => mayTouch_any a t.1 W)
              rw [unhide HM] at HMT
              have HI6 := hide (unhide HI5 (fun _ => unhide HM))
              clear HI4 HI5
              have hle : ¬ 4096 < (n : Int) := by omega
              have hle' : (n : Int) ≤ 4096 := by omega
              have HTK : Hid ((acc ++ [t]).take 4097 = L ++ [t]) := hide (by rw [unhide HLL]; exact take_snoc_lt (by have := unhide HNL; rw [unhide HLL, List.length_take] at this; omega))
              clear hbig
              obtain ⟨tk, tx⟩ := t
              simp only at *
              go_wp2_with fail
              refine (unhide HSP _).mono ?_
              rintro e w1 ⟨rfl, h1⟩
              subst h1
              go_wp2_with fail
              refine (unhide HFI _).mono ?_
              rintro e w2 ⟨⟨v2, rfl, hv⟩, b2⟩
              simp only [FirV, tkV] at hv
              subst hv
              have HB2 := hide ((unhide HB).trans (b2.mono (unhide HB).size))
              have hal := (Below.refl w2.heap.size w2).alloc (Nat.le_refl _) (Obj.cells #[.int .u8 (tk : Int), .string (bts tx)] 41)
              have HB3 := hide ((unhide HB2).trans (hal.mono (unhide HB2).size))
              have HO3 := hide (own_below (own_below (unhide HO) b2) hal)
              have HO2 := hide (own_below (unhide HO) b2)
              clear hal
              clear b2 HFI HSP
              go_wp2_with fail
              refine (unhide HMT _).mono ?_
              rintro e w3 ⟨rfl, h3⟩
              subst h3
              obtain ⟨v', w', hrun, h2, h3, k5⟩ := run_appT w2 w.heap.size (.slice A n cap) L (tk, tx) 34 (by have := unhide HO2; rwa [unhide HNL] at this ⊢) (by have := unhide HNL; omega) (unhide HB2).size
              simp only at hrun k5
              have k50 := k5.cell 0
              have k51 := k5.cell 1
              simp only [List.getElem?_toArray, List.getElem?_cons_succ, List.getElem?_cons_zero] at k50 k51
              have HO4 : Hid (w'.ownsRow w.heap.size 41 2 v' ((acc ++ [(tk, tx)]).take 4097).length (flatG tkC ((acc ++ [(tk, tx)]).take 4097))) := hide (by rw [unhide HTK]; exact h2)
              have HB4 := hide ((unhide HB2).trans h3)
              clear h2 h3 HTK HO3 HO HB3 HB2 HL4 k5
              go_wp2_with (at_builtin; refine wpList_append_runB (by rfl) _ _ 34 rfl rfl rfl rfl hrun ?_)
              go_step3
              refine ⟨rfl, ⟨k + sp + z, tk, acc ++ [(tk, tx)], _, _, _, _, _, _, _, _, _, _, _, _, _, _, _, _, _, _, _, _, _, _, _, _, _, _, _, _, _, _, _, _, _, _, _, _, _, _, _, _, _, _, _, _, _, _, _, _, _, _, _, rfl, by omega, by omega, HI6, HO4, HB4⟩, ?_⟩
              simp [intOf]
              omega
            · have e0 : ((k : Int) + (sp : Int) == (k : Int)) = true := by rw [beq_iff_eq]; have := unhide HS0; omega
              have HMT := hide (fun W => mayTouch_any a t.1 W)
              rw [unhide HM] at HMT
              have HI6 := hide (unhide HI5 (fun _ => unhide HM))
              clear HI4 HI5
              have hle : 4096 < (n : Int) := by omega
              have hle' : ¬ (n : Int) ≤ 4096 := by omega
              have HTK : Hid ((acc ++ [t]).take 4097 = L) := hide (by rw [unhide HLL]; exact take_snoc_ge (by have := unhide HNL; rw [unhide HLL, List.length_take] at this; omega))
              clear hbig
              obtain ⟨tk, tx⟩ := t
              simp only at *
              go_wp2_with fail
              refine (unhide HSP _).mono ?_
              rintro e w1 ⟨rfl, h1⟩
              subst h1
              go_wp2_with fail
              refine (unhide HFI _).mono ?_
              rintro e w2 ⟨⟨v2, rfl, hv⟩, b2⟩
              simp only [FirV, tkV] at hv
              subst hv
              have HB2 := hide ((unhide HB).trans (b2.mono (unhide HB).size))
              have hal := (Below.refl w2.heap.size w2).alloc (Nat.le_refl _) (Obj.cells #[.int .u8 (tk : Int), .string (bts tx)] 41)
              have HB3 := hide ((unhide HB2).trans (hal.mono (unhide HB2).size))
              have HO3 := hide (own_below (own_below (unhide HO) b2) hal)
              have HO2 := hide (own_below (unhide HO) b2)
              clear hal
              clear b2 HFI HSP
              go_wp2_with fail
              refine (unhide HMT _).mono ?_
              rintro e w3 ⟨rfl, h3⟩
              subst h3
              have HO4 : Hid ((w2.alloc (Obj.cells #[.int .u8 (tk : Int), .string (bts tx)] 41)).ownsRow w.heap.size 41 2 (.slice A n cap) ((acc ++ [(tk, tx)]).take 4097).length (flatG tkC ((acc ++ [(tk, tx)]).take 4097))) := hide (by rw [unhide HTK, ← unhide HNL]; exact unhide HO3)
              clear HTK HO3 HO HB2 HL4
              go_wp2
              go_step3
              refine ⟨rfl, ⟨k + sp + z, tk, acc ++ [(tk, tx)], _, _, _, _, _, _, _, _, _, _, _, _, _, _, _, _, _, _, _, _, _, _, _, _, _, _, _, _, _, _, _, _, _, _, _, _, _, _, _, _, _, _, _, _, _, _, _, _, _, _, _, rfl, by omega, by omega, HI6, HO4, HB3⟩, ?_⟩
              simp [intOf]
              omega
        · have HS0 := hide hs0
          clear hs0
          by_cases hbig : n ≤ 4096
          · have e0 : ((k : Int) + (sp : Int) == (k : Int)) = false := by rw [beq_eq_false_iff_ne]; have := unhide HS0; omega
            have HI6 := hide (unhide HI5 (fun h => absurd h (unhide HS0)))
            clear HI4 HI5
            have hle : ¬ 4096 < (n : Int) := by omega
            have hle' : (n : Int) ≤ 4096 := by omega
            have HTK : Hid ((acc ++ [t]).take 4097 = L ++ [t]) := hide (by rw [unhide HLL]; exact take_snoc_lt (by have := unhide HNL; rw [unhide HLL, List.length_take] at this; omega))
            clear hbig
            obtain ⟨tk, tx⟩ := t
            simp only at *
            go_wp2_with fail
            refine (unhide HSP _).mono ?_
            rintro e w1 ⟨rfl, h1⟩
            subst h1
            go_wp2_with fail
            refine (unhide HFI _).mono ?_
            rintro e w2 ⟨⟨v2, rfl, hv⟩, b2⟩
            simp only [FirV, tkV] at hv
            subst hv
            have HB2 := hide ((unhide HB).trans (b2.mono (unhide HB).size))
            have hal := (Below.refl w2.heap.size w2).alloc (Nat.le_refl _) (Obj.cells #[.int .u8 (tk : Int), .string (bts tx)] 41)
            have HB3 := hide ((unhide HB2).trans (hal.mono (unhide HB2).size))
            have HO3 := hide (own_below (own_below (unhide HO) b2) hal)
            have HO2 := hide (own_below (unhide HO) b2)
            clear hal
            clear b2 HFI HSP
            obtain ⟨v', w', hrun, h2, h3, k5⟩ := run_appT w2 w.heap.size (.slice A n cap) L (tk, tx) 34 (by have := unhide HO2; rwa [unhide HNL] at this ⊢) (by have := unhide HNL; omega) (unhide HB2).size
            simp only at hrun k5
            have k50 := k5.cell 0
            have k51 := k5.cell 1
            simp only [List.getElem?_toArray, List.getElem?_cons_succ, List.getElem?_cons_zero] at k50 k51
            have HO4 : Hid (w'.ownsRow w.heap.size 41 2 v' ((acc ++ [(tk, tx)]).take 4097).length (flatG tkC ((acc ++ [(tk, tx)]).take 4097))) := hide (by rw [unhide HTK]; exact h2)
            have HB4 := hide ((unhide HB2).trans h3)
            clear h2 h3 HTK HO3 HO HB3 HB2 HL4 k5
            go_wp2_with (at_builtin; refine wpList_append_runB (by rfl) _ _ 34 rfl rfl rfl rfl hrun ?_)
            go_step3
            refine ⟨rfl, ⟨k + sp + z, tk, acc ++ [(tk, tx)], _, _, _, _, _, _, _, _, _, _, _, _, _, _, _, _, _, _, _, _, _, _, _, _, _, _, _, _, _, _, _, _, _, _, _, _, _, _, _, _, _, _, _, _, _, _, _, _, _, _, _, rfl, by omega, by omega, HI6, HO4, HB4⟩, ?_⟩
            simp [intOf]
            omega
          · have e0 : ((k : Int) + (sp : Int) == (k : Int)) = false := by rw [beq_eq_false_iff_ne]; have := unhide HS0; omega
            have HI6 := hide (unhide HI5 (fun h => absurd h (unhide HS0)))
            clear HI4 HI5
            have hle : 4096 < (n : Int) := by omega
            have hle' : ¬ (n : Int) ≤ 4096 := by omega
            have HTK : Hid ((acc ++ [t]).take 4097 = L) := hide (by rw [unhide HLL]; exact take_snoc_ge (by have := unhide HNL; rw [unhide HLL, List.length_take] at this; omega))
            clear hbig
            obtain ⟨tk, tx⟩ := t
            simp only at *
            go_wp2_with fail
            refine (unhide HSP _).mono ?_
            rintro e w1 ⟨rfl, h1⟩
            subst h1
            go_wp2_with fail
            refine (unhide HFI _).mono ?_
            rintro e w2 ⟨⟨v2, rfl, hv⟩, b2⟩
            simp only [FirV, tkV] at hv
            subst hv
            have HB2 := hide ((unhide HB).trans (b2.mono (unhide HB).size))
            have hal := (Below.refl w2.heap.size w2).alloc (Nat.le_refl _) (Obj.cells #[.int .u8 (tk : Int), .string (bts tx)] 41)
            have HB3 := hide ((unhide HB2).trans (hal.mono (unhide HB2).size))
            have HO3 := hide (own_below (own_below (unhide HO) b2) hal)
            have HO2 := hide (own_below (unhide HO) b2)
            clear hal
            clear b2 HFI HSP
            have HO4 : Hid ((w2.alloc (Obj.cells #[.int .u8 (tk : Int), .string (bts tx)] 41)).ownsRow w.heap.size 41 2 (.slice A n cap) ((acc ++ [(tk, tx)]).take 4097).length (flatG tkC ((acc ++ [(tk, tx)]).take 4097))) := hide (by rw [unhide HTK, ← unhide HNL]; exact unhide HO3)
            clear HTK HO3 HO HB2 HL4
            go_wp2
            go_step3
            refine ⟨rfl, ⟨k + sp + z, tk, acc ++ [(tk, tx)], _, _, _, _, _, _, _, _, _, _, _, _, _, _, _, _, _, _, _, _, _, _, _, _, _, _, _, _, _, _, _, _, _, _, _, _, _, _, _, _, _, _, _, _, _, _, _, _, _, _, _, rfl, by omega, by omega, HI6, HO4, HB3⟩, ?_⟩
            simp [intOf]
            omega
end Go.Proofs.YtihgmpebpkjmkaaGreatDoor
