/-
  What a packed list's reader does, over this seat's program: block.
-/
import Derived.Test.YtfjjigcghhohkaaPnd
import Derived.Test.YtfjjigcghhohkaaPmg
set_option linter.unusedVariables false
namespace Go.Proofs.Ytfjjigcghhohkaa
open Go.RowKit Go.Proofs.Num Go.Proofs.Dct Go.Proofs.Pna

theorem own_but {w w' : World} {B D : Nat} {e : TypeId} {size : Nat} {v : Value} {n : Nat} {xs : List Value} (h : w.ownsRow B e size v n xs) (hb : But D w w') (hn : ∀ k, v.ownBlock = some k → k ≠ D) : w'.ownsRow B e size v n xs := by
  refine ⟨h.1, ?_⟩
  rcases h.2 with h2 | ⟨g, cap, cur, rfl, hg, hc, hr⟩
  · exact .inl h2
  · exact .inr ⟨g, cap, cur, rfl, hg, (hb.block g (Array.getElem?_eq_some_iff.1 hc).1 (hn g rfl)).trans hc, hr⟩
theorem own_mono {w : World} {B B' : Nat} {e : TypeId} {size : Nat} {v : Value} {n : Nat} {xs : List Value} (h : w.ownsRow B e size v n xs) (hb : B' ≤ B) : w.ownsRow B' e size v n xs := by
  refine ⟨h.1, ?_⟩
  rcases h.2 with h2 | ⟨g, cap, cur, rfl, hg, hr⟩
  · exact .inl h2
  · exact .inr ⟨g, cap, cur, rfl, by omega, hr⟩
/-- A row of one number. -/
theorem own_one (w : World) (f : Nat) : (w.alloc (.cells #[.int .u32 (f : Int)] 31)).ownsRow w.heap.size 31 1 (.slice (some ⟨w.heap.size, 0, none⟩) 1 1) [f].length (flatG cells32 [f]) :=
  World.ownsRow_lit w #[.int .u32 (f : Int)] 1 (Nat.le_refl _) (by unfold maxLen; omega) rfl
theorem firstS_le {T : List UInt8} {r : RS} (h : In T r) : (firstS T r).1 ≤ 4294967295 := by
  unfold firstS
  split
  · exact (takeS_least _ h.num.least).2
  · exact (takeS_least _ h.num.least).2
theorem restS_len (T : List UInt8) (r : RS) (many : Nat) : (restS T r many).1.length = many := restF_len _ _ _
theorem restS_le {T : List UInt8} {r : RS} (h : In T r) (many : Nat) : ∀ n ∈ (restS T r many).1, n ≤ 4294967295 := restF_le _ _ _ h.num.least
theorem blockS_len {T : List UInt8} {r : RS} {many : Nat} (h : 1 ≤ many) : (blockS T r many).1.length = many := by
  show (restS T _ (many - 1)).1.length + 1 = many
  rw [restS_len]
  omega
theorem index_run (g n cp m : Nat) (k : Int) (hk : k = (m : Int)) (hm : m < n) (w : World) : (Instr.indexAt 22 (.slice (some ⟨g, 0, none⟩) n cp) (.int .i64 k)).run Try.prog w = .ok (.pointer (some ⟨g, m, none⟩)) w := by
  subst hk
  obtain ⟨i0, hi, hz0, hz1, hz2⟩ := info_parts u32InfoN
  have he : Try.prog.elem 22 = 31 := by kernel_rfl
  rw [run_indexAt_slice (P := Try.prog) (w := w) (t := 22) (a := ⟨g, 0, none⟩) (len := n) (cap := cp) (k := .i64) (i := (m : Int)) (h := by kernel_rfl)]
  rw [if_pos (by omega), he]
  have hadd : Addr.add ⟨g, 0, none⟩ m = ⟨g, m, none⟩ := by unfold Addr.add; by_cases h0 : m = 0 <;> simp [h0]
  go_simp
theorem five_sets (w : World) (E : Nat) (a b c d e : Value) : But E w (((((w.setCell ⟨E, 0, none⟩ a).setCell ⟨E, 1, none⟩ b).setCell ⟨E, 2, none⟩ c).setCell ⟨E, 3, none⟩ d).setCell ⟨E, 4, none⟩ e) :=
  ((((But.set E w 0 a).trans (But.set E _ 1 b)).trans (But.set E _ 2 c)).trans (But.set E _ 3 d)).trans (But.set E _ 4 e)
/-- What is told of a block. -/
def blkV (pos : Nat) (l : List Nat) (x : Value) : Value := .agg #[.int .u32 (l.getD 0 0 : Nat), .int .u32 (l.getD (l.length - 1) 0 : Nat), .int .i64 (l.length : Int), .int .i64 (pos : Int), x]

theorem own_drewH {w : World} {B : Nat} {e : TypeId} {size : Nat} {v : Value} {n : Nat} {xs : List Value} (h : Hid (w.ownsRow B e size v n xs)) : Hid (w.drew.ownsRow B e size v n xs) := hide ⟨(unhide h).1, (unhide h).2⟩
theorem rdr_drewH {w : World} {B : Nat} {T : ByteArray} {r : RS} (h : Hid (Rdr w B T r)) : Hid (Rdr w.drew B T r) := hide (unhide h)
theorem but_drewH {B : Nat} {w w' : World} (h : Hid (But B w w')) : Hid (But B w w'.drew) := hide ⟨(unhide h).os, (unhide h).tape, (unhide h).output, (unhide h).size, (unhide h).block⟩
theorem rblock_end {L : List Nat} {T : ByteArray} {X : List Nat × RS} {r4 : RS} {pos B many C : Nat} {w W : World} {v x : Value}
    (hf : Hid (X = (L, r4))) (hv : Hid (blkV pos L x = v)) (ho : Hid (W.ownsRow C 31 1 x many (flatG cells32 L))) (hr : Hid (Rdr W B T r4)) (hb : Hid (But B w W)) :
    (∃ x, Ending.returned v = .returned (blkV pos X.1 x) ∧ W.ownsRow C 31 1 x many (flatG cells32 X.1)) ∧ Rdr W B T X.2 ∧ But B w W := by
  have h1 := unhide hf
  subst h1
  exact ⟨⟨x, by rw [unhide hv], unhide ho⟩, unhide hr, unhide hb⟩

set_option maxHeartbeats 2000000 in
set_option maxRecDepth 100000 in
theorem rblock_any (B : Nat) (T : ByteArray) (r : RS) (many : Nat) (w : World) (h : Rdr w B T r) (hi : In T.data.toList r) (hT : T.size ≤ 140737488355328) (h1 : 1 ≤ many) (hm : many ≤ 32) :
    Calls Try.prog 39 #[.pointer (some ⟨B, 0, none⟩), .int .i64 (many : Int)] w fun v w' => (∃ x, v = .returned (blkV r.pos (blockS T.data.toList r many).1 x) ∧ w'.ownsRow w.heap.size 31 1 x many (flatG cells32 (blockS T.data.toList r many).1)) ∧ Rdr w' B T (blockS T.data.toList r many).2 ∧ But B w w' := by
  have HDEF : Hid (blockS T.data.toList r many = ((firstS T.data.toList r).1 :: (restS T.data.toList (midS T.data.toList (firstS T.data.toList r).2 many) (many - 1)).1, (restS T.data.toList (midS T.data.toList (firstS T.data.toList r).2 many) (many - 1)).2)) := hide rfl
  obtain ⟨E, hE⟩ : ∃ E, E = w.heap.size := ⟨_, rfl⟩
  have hBl := Blk.lt h
  have hBE : B < E := by omega
  have hEN := Blk.new w 71 #[.int .u32 0, .int .u32 0, .int .i64 0, .int .i64 0, .slice none 0 0]
  obtain ⟨w0, hw0⟩ : ∃ w0, w0 = w.alloc (.cells #[.int .u32 0, .int .u32 0, .int .i64 0, .int .i64 0, .slice none 0 0] 71) := ⟨_, rfl⟩
  have b0 : Below w.heap.size w w0 := by rw [hw0]; exact (Below.refl _ w).alloc (Nat.le_refl _) _
  rw [← hw0, ← hE] at hEN
  have h0 := h.below b0
  have c1 : w0.cell? ⟨B, 1, none⟩ = some (.int .i64 (r.pos : Int)) := (Blk.cell h0 1).trans rfl
  have HF := hide (rfirst_any B T r w0 h0 hi hT)
  have hi1 := hi.first
  have hfl := firstS_le hi
  generalize hfs : firstS T.data.toList r = fs at HF hi1 hfl HDEF
  obtain ⟨f, r1⟩ := fs
  simp only at HF hi1 hfl HDEF
  have HEN := hide hEN
  have HB0 := hide (But.of_below (B := B) b0)
  have HEE := hide hE
  have hz0E : w0.heap.size = E + 1 := by rw [hw0, World.size_alloc, hE]
  clear h h0 hi b0 hEN hfs hE
  go_enter Try.func39, Try.ntmps39
  go_upto_region 1 with (fail)
  rw [← hw0, ← unhide HEE]
  clear hw0
  go_wp2_with fail
  refine (unhide HF).mono ?_
  rintro v w1 ⟨rfl, hr1, b1⟩
  have HE1 := hide ((unhide HEN).but b1 (by omega))
  have hw1s : E + 1 ≤ w1.heap.size := by have := b1.size; omega
  obtain ⟨F, hF⟩ : ∃ F, F = w1.heap.size := ⟨_, rfl⟩
  obtain ⟨w2, hw2⟩ : ∃ w2, w2 = w1.alloc (.cells #[.int .u32 (f : Int)] 31) := ⟨_, rfl⟩
  have b2 : Below w1.heap.size w1 w2 := by rw [hw2]; exact (Below.refl _ w1).alloc (Nat.le_refl _) _
  have HO2 : Hid (w2.ownsRow F 31 1 (.slice (some ⟨F, 0, none⟩) 1 1) [f].length (flatG cells32 [f])) := hide (by rw [hw2, hF]; exact own_one w1 f)
  have hr2 := hr1.below b2
  have HE2 := hide (Blk.below (unhide HE1) b2)
  have HB2 := hide (((unhide HB0).trans b1).trans (But.of_below b2))
  have hp1 := hi1.pos
  rw [sizeL] at hp1
  have HN := hide (rnumber_any B T r1 w2 hr2 hp1 hT)
  have hin := hi1.num
  have hlt := numS_lt T.data.toList r1
  have hmid : midS T.data.toList r1 many = if (numS T.data.toList r1).1 = many then (numS T.data.toList r1).2 else failS (numS T.data.toList r1).2 7 := rfl
  have him := hi1.mid many
  generalize (numS T.data.toList r1).1 = nb at HN hlt hmid
  generalize (numS T.data.toList r1).2 = r2 at HN hin hmid
  obtain ⟨r3, hr3⟩ : ∃ r3, r3 = midS T.data.toList r1 many := ⟨_, rfl⟩
  rw [← hr3] at HDEF him hmid
  have HRR := hide (fun W (hW : Rdr W B T r3) => rrest_any B T r3 (many - 1) W hW him hT (by omega))
  have hrl := restS_len T.data.toList r3 (many - 1)
  have hrle := restS_le him (many - 1)
  generalize hrs : restS T.data.toList r3 (many - 1) = rs at HRR HDEF hrl hrle
  obtain ⟨xs, r4⟩ := rs
  simp only at HRR HDEF hrl hrle
  have HLE := hide hrle
  have HRL := hide hrl
  have hFE : E < F := by omega
  obtain ⟨m1, hm1⟩ : ∃ m1, m1 = many - 1 := ⟨_, rfl⟩
  have hmm : (many : Int) - 1 = (m1 : Int) := by omega
  rw [← hm1] at HRR HRL
  have HM1 : Hid (m1 + 1 = many) := hide (by omega)
  have hm31 : m1 ≤ 31 := by omega
  clear hm1
  clear hr1 b1 b2 hr2 hp1 HF HE1 hr3 hrs hi1 hrl hrle HB0 HEN
  go_upto_region 3 with (fail)
  rw [← hw2, ← hF]
  clear hw2 hF
  have hne : ((nb : Int) != (many : Int)) = true ∧ nb ≠ many ∨ ((nb : Int) != (many : Int)) = false ∧ nb = many := by
    by_cases hq : nb = many
    · right; exact ⟨by rw [hq]; simp, hq⟩
    · left; exact ⟨by rw [bne_iff_ne]; omega, hq⟩
  rcases hne with hne | hne
  · obtain ⟨hne, hnq⟩ := hne
    go_wp2_with fail
    refine (unhide HN).mono ?_
    rintro v w3 ⟨rfl, hr3, b3⟩
    have HB3 := hide ((unhide HB2).trans b3)
    have HE3 := hide ((unhide HE2).but b3 (by omega))
    have HO3 := hide (own_but (unhide HO2) b3 (fun k hk => by have : F = k := Option.some.inj hk; omega))
    have HFA := hide (rfail_any B T r2 7 w3 hr3)
    rw [if_neg hnq] at hmid
    rw [← hmid] at HFA
    clear hr3 b3 HN HB2 HE2 HO2 hmid hnq
    go_wp2_with fail
    refine (unhide HFA).mono ?_
    rintro v w4 ⟨rfl, hr4, b4⟩
    have HB4 := hide ((unhide HB3).trans b4)
    have HE4 := hide ((unhide HE3).but b4 (by omega))
    have HO4 := hide (own_but (unhide HO3) b4 (fun k hk => by have : F = k := Option.some.inj hk; omega))
    have HX := hide (unhide HRR w4 hr4)
    clear hr4 b4 HFA HB3 HE3 HO3 HRR
    go_wp2_with fail
    refine (unhide HX).mono ?_
    rintro v w5 ⟨⟨x, rfl, hx⟩, hr5, b5⟩
    have hE5 := (unhide HE4).but b5 (by omega)
    have ho5 := own_but (unhide HO4) b5 (fun k hk => by have : F = k := Option.some.inj hk; omega)
    have hx' := hx
    rw [← unhide HRL] at hx'
    obtain ⟨v6, w6, hrun, how, hgr, hbl⟩ := run_append_row32 w5 F _ x [f] xs 22 ho5 (rowG_of_own cells32_len hx' (by rw [unhide HRL]; omega) (unhide HLE)) (own_neat hx) (by rw [unhide HRL]; simp only [List.length_cons, List.length_nil]; omega) (by have := ho5.2; rcases this with ⟨h, _⟩ | ⟨g, _, _, hv, _, hg, _⟩; cases h; injection hv with h1; injection h1 with h2; injection h2 with h3; subst h3; exact Nat.le_of_lt (Array.getElem?_eq_some_iff.1 hg).1)
    have hE6 : Blk w6 E 71 #[.int .u32 0, .int .u32 0, .int .i64 0, .int .i64 0, .slice none 0 0] := (hgr.block E (Blk.lt hE5) (fun e => by have : E = F := Option.some.inj e; omega)).trans hE5
    have hr6 : Rdr w6 B T r4 := (hgr.block B (Blk.lt hr5) (fun e => by have : B = F := Option.some.inj e; omega)).trans hr5
    have hB6 : But B w w6 := ⟨hgr.os.trans ((unhide HB4).trans b5).os, hgr.tape.trans ((unhide HB4).trans b5).tape, hgr.output.trans ((unhide HB4).trans b5).output, Nat.le_trans ((unhide HB4).trans b5).size hgr.size, fun k hk hn => (hgr.block k (by have := ((unhide HB4).trans b5).size; omega) (fun e => by have : k = F := Option.some.inj e; have := unhide HEE; omega)).trans (((unhide HB4).trans b5).block k hk hn)⟩
    have hlen : ([f] ++ xs).length = many := by rw [List.length_append, unhide HRL]; have := unhide HM1; simp only [List.length_cons, List.length_nil]; omega
    obtain ⟨g, cp, hv6, hgF, hgl, hc0, _⟩ := ownG_at cells32_len how (j := 0) (by omega)
    obtain ⟨g', cp', hv6', _, _, hcl, _⟩ := ownG_at cells32_len how (j := m1) (by have := unhide HM1; omega)
    have hgg : g' = g := by rw [hv6] at hv6'; injection hv6' with h1; injection h1 with h2; injection h2 with h3; exact h3.symm
    subst hgg
    have e0 := hc0 0 (by omega)
    have e1 := hcl 0 (by omega)
    rw [hlen] at hv6
    rw [Nat.zero_mul, Nat.zero_add] at e0
    rw [Nat.mul_one, Nat.add_zero] at e1
    obtain ⟨lz, hlz⟩ : ∃ lz : Nat, lz = ([f] ++ xs)[m1]'(by have := unhide HM1; omega) := ⟨_, rfl⟩
    rw [← hlz] at e1
    have e0' : w6.cell? ⟨g', 0, none⟩ = some (.int .u32 (f : Int)) := e0
    have e1' : w6.cell? ⟨g', m1, none⟩ = some (.int .u32 (lz : Int)) := e1
    have HFIN : Hid (blockS T.data.toList r many = (f :: xs, r4)) := HDEF
    have HBV : Hid (blkV r.pos (f :: xs) v6 = .agg #[.int .u32 (f : Int), .int .u32 (lz : Int), .int .i64 (many : Int), .int .i64 (r.pos : Int), v6]) := hide (by
      unfold blkV
      have hl2 : (f :: xs).length = many := hlen
      have h3 : (f :: xs).getD (many - 1) 0 = lz := by
        rw [hlz]
        have h4 := unhide HM1
        rw [show many - 1 = m1 by omega]
        rw [List.getD_eq_getElem?_getD, List.getElem?_eq_getElem (by simpa using (show m1 < ([f] ++ xs).length by omega))]
        rfl
      rw [hl2, h3]
      rfl)
    have HOW : Hid (w6.ownsRow w.heap.size 31 1 v6 many (flatG cells32 (f :: xs))) := hide (by rw [← hlen]; exact own_mono how (by have := unhide HEE; omega))
    have HR6 := hide hr6
    have HB6 := hide hB6
    have HE6 := hide hE6
    have HM := hide (show m1 < many by have := unhide HM1; omega)
    have hmlt : (m1 : Int) < (many : Int) := by have := unhide HM1; omega
    clear hE5 ho5 hx hx' hr5 b5 how hgr hbl hE6 hr6 hB6 hlen hc0 hcl hv6' e0 e1 hlz HB4 HE4 HO4 HX HDEF HRL HLE
    subst hv6
    go_wp2_with (at_builtin; refine wpList_append_runP (by rfl) _ _ 22 rfl rfl rfl rfl hrun ?_)
    have hgE : g' ≠ E := by omega
    have hEg : E ≠ g' := by omega
    have x0 := (Blk.cell (unhide HE6) 0)
    have x1 := (Blk.cell (unhide HE6) 1)
    have x2 := (Blk.cell (unhide HE6) 2)
    have x3 := (Blk.cell (unhide HE6) 3)
    have x4 := (Blk.cell (unhide HE6) 4)
    have y0 := (Blk.frozen (unhide HE6) 0)
    have y1 := (Blk.frozen (unhide HE6) 1)
    have y2 := (Blk.frozen (unhide HE6) 2)
    have y3 := (Blk.frozen (unhide HE6) 3)
    have y4 := (Blk.frozen (unhide HE6) 4)
    simp only [List.getElem?_toArray, List.getElem?_cons_zero, List.getElem?_cons_succ] at x0 x1 x2 x3 x4
    have hm0 : (0 : Int) < (many : Int) := by omega
    have vw : IntKind.i64.wrap ((many : Int) - 1) = (m1 : Int) := by rw [IntKind.wrap_i64]; omega
    have hmn := unhide HM
    have hm0n : 0 < many := by omega
    have hm1z : (0 : Int) ≤ (m1 : Int) := by omega
    have hIA := index_run g' many cp m1 ((many : Int) - 1) (by omega) hmn
    have hIB := index_run g' many cp m1 (m1 : Int) rfl hmn
    have hIC := index_run g' many cp m1 (IntKind.i64.wrap ((many : Int) - 1)) vw hmn
    have hID := index_run g' many cp m1 (wrap64 ((many : Int) - 1)) (by unfold wrap64; omega) hmn
    have hrg : (0 : Int) ≤ IntKind.i64.wrap ((many : Int) - 1) ∧ IntKind.i64.wrap ((many : Int) - 1) < (many : Int) := by rw [vw]; omega
    clear vw hmm hmlt hm1z
    clear hrun
    have e0d : w6.drew.cell? ⟨g', 0, none⟩ = some (.int .u32 (f : Int)) := e0'
    have e1d : w6.drew.cell? ⟨g', m1, none⟩ = some (.int .u32 (lz : Int)) := e1'
    go_region_with (fail)
    all_goals
      have hS5 := five_sets w6 E (.int .u32 (f : Int)) (.int .u32 (lz : Int)) (.int .i64 (many : Int)) (.int .i64 (r.pos : Int)) (.slice (some ⟨g', 0, none⟩) many cp)
      have HRf := hide ((unhide HR6).but hS5 (by omega))
      have HOf := hide (own_but (unhide HOW) hS5 (fun k hk => by have : g' = k := Option.some.inj hk; omega))
      have HBf := hide ((unhide HB6).far hS5 (by have := unhide HEE; omega))
      clear hS5 e0d e1d hIA hIB hIC hID hrg e0' e1' HE6 HR6 HOW HB6
      (try go_wp2)
      (try simp only [Exit.inBlock, Exit.then])
      refine bodyPost_ret (v := .agg #[.int .u32 (f : Int), .int .u32 (lz : Int), .int .i64 (many : Int), .int .i64 (r.pos : Int), .slice (some ⟨g', 0, none⟩) many cp]) ?_ rfl (rblock_end HFIN HBV (own_drewH HOf) (rdr_drewH HRf) (but_drewH HBf))
      clear HOf HRf HBf HFIN HBV
      first | (rw [results_cell rfl]; go_simp) | rfl
  · obtain ⟨hne, hnq⟩ := hne
    go_wp2_with fail
    refine (unhide HN).mono ?_
    rintro v w3 ⟨rfl, hr3, b3⟩
    have HB3 := hide ((unhide HB2).trans b3)
    have HE3 := hide ((unhide HE2).but b3 (by omega))
    have HO3 := hide (own_but (unhide HO2) b3 (fun k hk => by have : F = k := Option.some.inj hk; omega))
    rw [if_pos hnq] at hmid
    rw [← hmid] at hr3
    have HX := hide (unhide HRR w3 hr3)
    have HB4 := HB3
    have HE4 := HE3
    have HO4 := HO3
    clear hr3 b3 HN HB2 HE2 HO2 hmid hnq HB3 HE3 HO3 HRR
    go_wp2_with fail
    refine (unhide HX).mono ?_
    rintro v w5 ⟨⟨x, rfl, hx⟩, hr5, b5⟩
    have hE5 := (unhide HE4).but b5 (by omega)
    have ho5 := own_but (unhide HO4) b5 (fun k hk => by have : F = k := Option.some.inj hk; omega)
    have hx' := hx
    rw [← unhide HRL] at hx'
    obtain ⟨v6, w6, hrun, how, hgr, hbl⟩ := run_append_row32 w5 F _ x [f] xs 22 ho5 (rowG_of_own cells32_len hx' (by rw [unhide HRL]; omega) (unhide HLE)) (own_neat hx) (by rw [unhide HRL]; simp only [List.length_cons, List.length_nil]; omega) (by have := ho5.2; rcases this with ⟨h, _⟩ | ⟨g, _, _, hv, _, hg, _⟩; cases h; injection hv with h1; injection h1 with h2; injection h2 with h3; subst h3; exact Nat.le_of_lt (Array.getElem?_eq_some_iff.1 hg).1)
    have hE6 : Blk w6 E 71 #[.int .u32 0, .int .u32 0, .int .i64 0, .int .i64 0, .slice none 0 0] := (hgr.block E (Blk.lt hE5) (fun e => by have : E = F := Option.some.inj e; omega)).trans hE5
    have hr6 : Rdr w6 B T r4 := (hgr.block B (Blk.lt hr5) (fun e => by have : B = F := Option.some.inj e; omega)).trans hr5
    have hB6 : But B w w6 := ⟨hgr.os.trans ((unhide HB4).trans b5).os, hgr.tape.trans ((unhide HB4).trans b5).tape, hgr.output.trans ((unhide HB4).trans b5).output, Nat.le_trans ((unhide HB4).trans b5).size hgr.size, fun k hk hn => (hgr.block k (by have := ((unhide HB4).trans b5).size; omega) (fun e => by have : k = F := Option.some.inj e; have := unhide HEE; omega)).trans (((unhide HB4).trans b5).block k hk hn)⟩
    have hlen : ([f] ++ xs).length = many := by rw [List.length_append, unhide HRL]; have := unhide HM1; simp only [List.length_cons, List.length_nil]; omega
    obtain ⟨g, cp, hv6, hgF, hgl, hc0, _⟩ := ownG_at cells32_len how (j := 0) (by omega)
    obtain ⟨g', cp', hv6', _, _, hcl, _⟩ := ownG_at cells32_len how (j := m1) (by have := unhide HM1; omega)
    have hgg : g' = g := by rw [hv6] at hv6'; injection hv6' with h1; injection h1 with h2; injection h2 with h3; exact h3.symm
    subst hgg
    have e0 := hc0 0 (by omega)
    have e1 := hcl 0 (by omega)
    rw [hlen] at hv6
    rw [Nat.zero_mul, Nat.zero_add] at e0
    rw [Nat.mul_one, Nat.add_zero] at e1
    obtain ⟨lz, hlz⟩ : ∃ lz : Nat, lz = ([f] ++ xs)[m1]'(by have := unhide HM1; omega) := ⟨_, rfl⟩
    rw [← hlz] at e1
    have e0' : w6.cell? ⟨g', 0, none⟩ = some (.int .u32 (f : Int)) := e0
    have e1' : w6.cell? ⟨g', m1, none⟩ = some (.int .u32 (lz : Int)) := e1
    have HFIN : Hid (blockS T.data.toList r many = (f :: xs, r4)) := HDEF
    have HBV : Hid (blkV r.pos (f :: xs) v6 = .agg #[.int .u32 (f : Int), .int .u32 (lz : Int), .int .i64 (many : Int), .int .i64 (r.pos : Int), v6]) := hide (by
      unfold blkV
      have hl2 : (f :: xs).length = many := hlen
      have h3 : (f :: xs).getD (many - 1) 0 = lz := by
        rw [hlz]
        have h4 := unhide HM1
        rw [show many - 1 = m1 by omega]
        rw [List.getD_eq_getElem?_getD, List.getElem?_eq_getElem (by simpa using (show m1 < ([f] ++ xs).length by omega))]
        rfl
      rw [hl2, h3]
      rfl)
    have HOW : Hid (w6.ownsRow w.heap.size 31 1 v6 many (flatG cells32 (f :: xs))) := hide (by rw [← hlen]; exact own_mono how (by have := unhide HEE; omega))
    have HR6 := hide hr6
    have HB6 := hide hB6
    have HE6 := hide hE6
    have HM := hide (show m1 < many by have := unhide HM1; omega)
    have hmlt : (m1 : Int) < (many : Int) := by have := unhide HM1; omega
    clear hE5 ho5 hx hx' hr5 b5 how hgr hbl hE6 hr6 hB6 hlen hc0 hcl hv6' e0 e1 hlz HB4 HE4 HO4 HX HDEF HRL HLE
    subst hv6
    go_wp2_with (at_builtin; refine wpList_append_runP (by rfl) _ _ 22 rfl rfl rfl rfl hrun ?_)
    have hgE : g' ≠ E := by omega
    have hEg : E ≠ g' := by omega
    have x0 := (Blk.cell (unhide HE6) 0)
    have x1 := (Blk.cell (unhide HE6) 1)
    have x2 := (Blk.cell (unhide HE6) 2)
    have x3 := (Blk.cell (unhide HE6) 3)
    have x4 := (Blk.cell (unhide HE6) 4)
    have y0 := (Blk.frozen (unhide HE6) 0)
    have y1 := (Blk.frozen (unhide HE6) 1)
    have y2 := (Blk.frozen (unhide HE6) 2)
    have y3 := (Blk.frozen (unhide HE6) 3)
    have y4 := (Blk.frozen (unhide HE6) 4)
    simp only [List.getElem?_toArray, List.getElem?_cons_zero, List.getElem?_cons_succ] at x0 x1 x2 x3 x4
    have hm0 : (0 : Int) < (many : Int) := by omega
    have vw : IntKind.i64.wrap ((many : Int) - 1) = (m1 : Int) := by rw [IntKind.wrap_i64]; omega
    have hmn := unhide HM
    have hm0n : 0 < many := by omega
    have hm1z : (0 : Int) ≤ (m1 : Int) := by omega
    have hIA := index_run g' many cp m1 ((many : Int) - 1) (by omega) hmn
    have hIB := index_run g' many cp m1 (m1 : Int) rfl hmn
    have hIC := index_run g' many cp m1 (IntKind.i64.wrap ((many : Int) - 1)) vw hmn
    have hID := index_run g' many cp m1 (wrap64 ((many : Int) - 1)) (by unfold wrap64; omega) hmn
    have hrg : (0 : Int) ≤ IntKind.i64.wrap ((many : Int) - 1) ∧ IntKind.i64.wrap ((many : Int) - 1) < (many : Int) := by rw [vw]; omega
    clear vw hmm hmlt hm1z
    clear hrun
    have e0d : w6.drew.cell? ⟨g', 0, none⟩ = some (.int .u32 (f : Int)) := e0'
    have e1d : w6.drew.cell? ⟨g', m1, none⟩ = some (.int .u32 (lz : Int)) := e1'
    go_region_with (fail)
    all_goals
      have hS5 := five_sets w6 E (.int .u32 (f : Int)) (.int .u32 (lz : Int)) (.int .i64 (many : Int)) (.int .i64 (r.pos : Int)) (.slice (some ⟨g', 0, none⟩) many cp)
      have HRf := hide ((unhide HR6).but hS5 (by omega))
      have HOf := hide (own_but (unhide HOW) hS5 (fun k hk => by have : g' = k := Option.some.inj hk; omega))
      have HBf := hide ((unhide HB6).far hS5 (by have := unhide HEE; omega))
      clear hS5 e0d e1d hIA hIB hIC hID hrg e0' e1' HE6 HR6 HOW HB6
      (try go_wp2)
      (try simp only [Exit.inBlock, Exit.then])
      refine bodyPost_ret (v := .agg #[.int .u32 (f : Int), .int .u32 (lz : Int), .int .i64 (many : Int), .int .i64 (r.pos : Int), .slice (some ⟨g', 0, none⟩) many cp]) ?_ rfl (rblock_end HFIN HBV (own_drewH HOf) (rdr_drewH HRf) (but_drewH HBf))
      clear HOf HRf HBf HFIN HBV
      first | (rw [results_cell rfl]; go_simp) | rfl
end Go.Proofs.Ytfjjigcghhohkaa
