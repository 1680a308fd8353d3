/-
  What fold.newSeeker, fold.Has and fold.Count do, over this seat's program.
-/
import Derived.Test.YtekhfbbnlojcoaaDoorSkr
import Derived.Test.YtekhfbbnlojcoaaDoorFfo
set_option linter.unusedVariables false
namespace Go.Proofs.YtekhfbbnlojcoaaDoor
open Go.RowKit Go.Proofs.Rns Go.Proofs.Kmp

theorem iInfo : (Tryd.prog.info? 3).map (fun i => (i.zero, i.size, i.bytes)) = some (some (.int .i64 0), 1, 8) := by kernel_rfl

/-- The value of a new seeker. -/
def skrV (v : Value) (g : Nat) (p : List Int) : Value := .agg #[v, .int .i64 0, .slice (some ⟨g, 0, none⟩) p.length p.length]

theorem Blk.new' {w : World} {n : Nat} (t : TypeId) (cs : Array Value) (h : n = w.heap.size) : Blk (w.alloc (.cells cs t)) n t cs := by subst h; exact Blk.new w t cs
theorem natC_set (l : List Nat) (i x : Nat) : (natC l).toArray.setIfInBounds i (.int .i64 (x : Int)) = (natC (l.set i x)).toArray := by
  apply Array.ext'
  simp [natC]
theorem natC_zero (n : Nat) : fillC [] n (.int .i64 0) = (natC (List.replicate n 0)).toArray := by
  rw [fill_none]
  simp [natC]
theorem drop_snoc {p : List Int} {i : Nat} (h0 : 1 ≤ i) (h : i < p.length) : (p.take (i + 1)).drop 1 = (p.take i).drop 1 ++ [p[i]] := by
  rw [List.take_succ_eq_append_getElem h, List.drop_append_of_le_length (by simp; omega)]
theorem back_set {p : List Int} {back : List Nat} {i x : Nat} (h : Back p back i) (hl : i < back.length) (ht : Top p ((p.take (i + 1)).drop 1) x) : Back p (back.set i x) (i + 1) := by
  intro j hj
  by_cases e : j = i
  · subst e
    exact ⟨x, by simp [hl], ht⟩
  · obtain ⟨b, hb, htb⟩ := h j (by omega)
    exact ⟨b, by rw [List.getElem?_set_ne (fun e' => e e'.symm)]; exact hb, htb⟩

set_option maxHeartbeats 1000000 in
set_option maxRecDepth 100000 in
/-- fold.newSeeker finds the list in itself. -/
theorem newSeeker_any (v : Value) (p : List Int) (w : World) (hp : p ≠ []) (hl : p.length ≤ 2097152) (h : RowB w.heap.size w v p) :
    Calls Tryd.prog 34 #[v] w fun e w' => ∃ (g : Nat) (back : List Nat), e = .returned (skrV v g p) ∧ w.heap.size ≤ g ∧ g < w'.heap.size ∧ Blk w' g 3 (natC back).toArray ∧ back.length = p.length ∧ Back p back p.length ∧ Below w.heap.size w w' := by
  obtain ⟨i0, hi, hz0, hz1, hz2⟩ := info_parts iInfo
  have hp0 : 0 < p.length := List.length_pos_iff.mpr hp
  obtain ⟨b, off, cap, rfl, hlt, hc⟩ := h
  have hmk := make_blk (P := Tryd.prog) (w.alloc (.cells #[.slice none 0 0, .int .i64 0, .slice none 0 0] 73)) 71 3 i0 (.int .i64 0) Tryd.underlying71 hi hz0 hz1 rfl p.length (by omega) (by omega)
  have HC := hide hc
  have HP := hide hp
  clear hc hp
  go_enter Tryd.func34, Tryd.ntmps34
  go_wp2
  generalize hw3 : World.alloc (World.alloc (World.alloc w _) _) _ = w3
  have hS3 : Skr w3 (w.heap.size + 1 + 1) (.slice (some ⟨b, off, none⟩) p.length cap) (w.heap.size + 1) p (List.replicate p.length 0) 0 := by
    rw [← hw3]
    refine ⟨Blk.new' _ _ (by simp), ⟨b, off, cap, rfl, by omega, fun j hj => ?_⟩, ?_, by omega, by simp⟩
    · refine Eq.trans ?_ (unhide HC j hj)
      exact ((((Below.refl w.heap.size w).alloc (Nat.le_refl _) _).alloc (by simp) _).alloc (by simp; omega) _).cell (p := ⟨b, off + j, none⟩) hlt
    · rw [← natC_zero]
      exact Blk.below (Blk.new' _ _ (by simp)) ((Below.refl _ _).alloc (Nat.le_refl _) _)
  have hR3 : Blk w3 w.heap.size 73 #[.slice none 0 0, .int .i64 0, .slice none 0 0] := by
    rw [← hw3]
    exact Blk.below (Blk.below (Blk.new w _ _) ((Below.refl _ _).alloc (Nat.le_refl _) _)) ((Below.refl _ _).alloc (Nat.le_refl _) _)
  have hB3 : Below w.heap.size w w3 := by
    rw [← hw3]
    exact (((Below.refl w.heap.size w).alloc (Nat.le_refl _) _).alloc (by simp) _).alloc (by simp; omega) _
  have HS3 := hide hS3
  have HR3 := hide hR3
  have HB3 := hide hB3
  clear hS3 hR3 hB3 hw3 hmk
  obtain ⟨g, hg⟩ : ∃ g, w.heap.size + 1 = g := ⟨_, rfl⟩
  obtain ⟨B, hB⟩ : ∃ B, g + 1 = B := ⟨_, rfl⟩
  rw [hg, hB] at HS3
  simp only [hg, hB]
  go_loopw [4] (fun z wr => ∃ (i h : Nat) (back : List Nat), z = .int .i64 i ∧ 1 ≤ i ∧ i ≤ p.length ∧ Hid (Skr wr B (.slice (some ⟨b, off, none⟩) p.length cap) g p back h) ∧ Hid (Top p ((p.take i).drop 1) h) ∧ Hid (Back p back i) ∧ Hid (Blk wr w.heap.size 73 #[.slice none 0 0, .int .i64 0, .slice none 0 0]) ∧ Hid (Below w.heap.size w wr)) (fun z _ => p.length - (intOf z).toNat)
  case atStart =>
    refine ⟨1, 0, _, rfl, Nat.le_refl _, hp0, HS3, hide ?_, hide ?_, HR3, HB3⟩
    · have : (p.take 1).drop 1 = [] := by apply List.drop_of_length_le; simp; omega
      rw [this]; exact top_nil p
    · intro i hi1
      have : i = 0 := by omega
      subst this
      refine ⟨0, by rw [List.getElem?_replicate, if_pos hp0], ?_⟩
      have : (p.take 1).drop 1 = [] := by apply List.drop_of_length_le; simp; omega
      rw [this]; exact top_nil p
  case round =>
    obtain ⟨i, h, back, rfl, hi1, hil, HS, HT, HBk, HR, HB⟩ := hrel
    by_cases hlt2 : i < p.length
    · have hlt1 : (i : Int) < (p.length : Int) := by omega
      have hcx : wr.cell? ⟨b, off + i, none⟩ = some (.int .i32 p[i]) := ((unhide HB).cell (p := ⟨b, off + i, none⟩) hlt).trans (unhide HC i hlt2)
      have hh : h ≤ i := by
        have := top_len (unhide HT)
        simp at this
        omega
      have HTK := hide (takes_any B _ g p ((p.take i).drop 1) back h i p[i] wr (unhide HS) (unhide HP) hl (unhide HT) (unhide HBk) hh)
      have HDS := hide (drop_snoc hi1 hlt2)
      generalize p[i] = x at hcx HTK HDS
      go_wp2_with fail
      refine (unhide HTK).mono ?_
      rintro e w4 ⟨rfl, b4, h4, s4, t4⟩
      rw [← unhide HDS] at t4
      obtain ⟨c0, c1, c2, f1⟩ := s4.cells
      have hbl : back.length = p.length := s4.len
      obtain ⟨old, hold⟩ : ∃ old, back[i]? = some old := ⟨back[i]'(by omega), List.getElem?_eq_getElem (by omega)⟩
      have cg := s4.at_back hold
      have fg : w4.frozen? ⟨g, i, none⟩ = false := Blk.frozen s4.bck i
      have b4' : Below w.heap.size w w4 := (unhide HB).trans (b4.mono (by omega))
      have r4 : Blk w4 w.heap.size 73 #[.slice none 0 0, .int .i64 0, .slice none 0 0] := blk_below (unhide HR) b4 (by omega)
      have b5 : Below w.heap.size w (w4.setCell ⟨g, i, none⟩ (.int .i64 (h4 : Int))) := b4'.setCell (p := ⟨g, i, none⟩) (by show w.heap.size ≤ g; omega) _
      have s5 : Skr (w4.setCell ⟨g, i, none⟩ (.int .i64 (h4 : Int))) B (.slice (some ⟨b, off, none⟩) p.length cap) g p (back.set i h4) h4 := by
        refine ⟨Blk.other s4.blk (by show B ≠ g; omega) _, ⟨b, off, cap, rfl, by omega, fun j hj => ?_⟩, ?_, s4.low, by simp [hbl]⟩
        · exact (b5.cell (p := ⟨b, off + j, none⟩) hlt).trans (unhide HC j hj)
        · have := Blk.set s4.bck i (.int .i64 (h4 : Int))
          rwa [natC_set] at this
      have r5 : Blk (w4.setCell ⟨g, i, none⟩ (.int .i64 (h4 : Int))) w.heap.size 73 #[.slice none 0 0, .int .i64 0, .slice none 0 0] := Blk.other r4 (by show w.heap.size ≠ g; omega) _
      have HFIN : Hid (∃ (j h : Nat) (back : List Nat), Value.int .i64 ((i : Int) + 1) = .int .i64 j ∧ 1 ≤ j ∧ j ≤ p.length ∧ Hid (Skr (w4.setCell ⟨g, i, none⟩ (.int .i64 (h4 : Int))) B (.slice (some ⟨b, off, none⟩) p.length cap) g p back h) ∧ Hid (Top p ((p.take j).drop 1) h) ∧ Hid (Back p back j) ∧ Hid (Blk (w4.setCell ⟨g, i, none⟩ (.int .i64 (h4 : Int))) w.heap.size 73 #[.slice none 0 0, .int .i64 0, .slice none 0 0]) ∧ Hid (Below w.heap.size w (w4.setCell ⟨g, i, none⟩ (.int .i64 (h4 : Int))))) :=
        ⟨i + 1, h4, _, rfl, by omega, hlt2, s5, t4, back_set (unhide HBk) (by omega) t4, r5, b5⟩
      clear s4 t4 hold b4 b4' r4 b5 s5 r5 HTK
      go_wp2
      refine ⟨?_, by simp [intOf]; omega⟩
      exact unhide HFIN
    · have hip : i = p.length := by omega
      subst hip
      obtain ⟨c0, c1, c2, f1⟩ := (unhide HS).cells
      have r0 : wr.cell? ⟨w.heap.size, 0, none⟩ = some (.slice none 0 0) := by rw [Blk.cell (unhide HR)]; rfl
      have r1 : wr.cell? ⟨w.heap.size, 1, none⟩ = some (.int .i64 0) := by rw [Blk.cell (unhide HR)]; rfl
      have r2 : wr.cell? ⟨w.heap.size, 2, none⟩ = some (.slice none 0 0) := by rw [Blk.cell (unhide HR)]; rfl
      have z0 : wr.frozen? ⟨w.heap.size, 0, none⟩ = false := Blk.frozen (unhide HR) 0
      have z1 : wr.frozen? ⟨w.heap.size, 1, none⟩ = false := Blk.frozen (unhide HR) 1
      have z2 : wr.frozen? ⟨w.heap.size, 2, none⟩ = false := Blk.frozen (unhide HR) 2
      have hne : w.heap.size ≠ B := by omega
      go_wp2
      (try simp only [Exit.inBlock, Exit.then])
      refine bodyPost_ret (v := skrV (.slice (some ⟨b, off, none⟩) p.length cap) g p) ?_ rfl ⟨g, back, rfl, by omega, ?_, ?_, (unhide HS).len, unhide HBk, ?_⟩
      · rw [results_cell rfl]
        unfold skrV
        go_simp
      · have := Blk.lt (unhide HS).bck
        simpa using this
      · exact Blk.other (Blk.other (Blk.other (Blk.other (unhide HS).bck (by show g ≠ B; omega) _) (by show g ≠ w.heap.size; omega) _) (by show g ≠ w.heap.size; omega) _) (by show g ≠ w.heap.size; omega) _
      · exact ((((unhide HB).setCell (p := ⟨B, 1, none⟩) (by show w.heap.size ≤ B; omega) _).setCell (p := ⟨w.heap.size, 0, none⟩) (Nat.le_refl _) _).setCell (p := ⟨w.heap.size, 1, none⟩) (Nat.le_refl _) _).setCell (p := ⟨w.heap.size, 2, none⟩) (Nat.le_refl _) _

/-- A slice of letters that has some lies at a place. -/
theorem rowB_of {w : World} {v : Value} {l : List Int} (h : RowI w v l) (hne : l ≠ []) : RowB w.heap.size w v l := by
  obtain ⟨a, cap, hv, hn, hc⟩ := h
  rcases hc with hc | ⟨b, off, ha, hlt, hc⟩
  · exact absurd hc hne
  · exact ⟨b, off, cap, by rw [hv, ha], hlt, hc⟩
theorem RowB.mono {B C : Nat} {w : World} {v : Value} {l : List Int} (h : RowB B w v l) (hC : B ≤ C) : RowB C w v l := by
  obtain ⟨b, off, cap, hv, hlt, hc⟩ := h
  exact ⟨b, off, cap, hv, by omega, hc⟩
/-- The seeker that is put at a new block. -/
theorem skr_new {w w1 : World} {v : Value} {p : List Int} {g : Nat} {back : List Nat} (h : RowB w.heap.size w v p) (hb : Below w.heap.size w w1) (hg : g < w1.heap.size) (hk : Blk w1 g 3 (natC back).toArray) (hl : back.length = p.length) :
    Skr (w1.alloc (.cells #[v, .int .i64 0, .slice (some ⟨g, 0, none⟩) p.length p.length] 73)) w1.heap.size v g p back 0 := by
  have hz := hb.size
  have ha : Below w1.heap.size w1 (w1.alloc (.cells #[v, .int .i64 0, .slice (some ⟨g, 0, none⟩) p.length p.length] 73)) := (Below.refl _ _).alloc (Nat.le_refl _) _
  exact ⟨Blk.new' _ _ rfl, ((h.below hb).mono hz).below ha, Blk.below hk ha, hg, hl⟩
theorem has_of {p l : List Int} (hp : p ≠ []) {k : Nat} (hs : p <:+ l.take k) : decide (0 < places p l) = true := by
  rw [decide_eq_true_iff, places_pos]
  exact hs.isInfix.trans (List.take_prefix k l).isInfix

set_option maxHeartbeats 1000000 in
set_option maxRecDepth 100000 in
/-- fold.Has tells whether it stands somewhere. -/
theorem has_any (v v' : Value) (l p : List Int) (w : World) (h : RowI w v l) (h' : RowI w v' p) (hl : l.length ≤ 2097152) (hpl : p.length ≤ 2097152) :
    Calls Tryd.prog 13 #[v, v'] w fun e w' => e = .returned (.bool (decide (0 < places p l))) ∧ Below w.heap.size w w' := by
  by_cases hp : p = []
  · subst hp
    have hf : decide (0 < places [] l) = true := by rw [places_nil]; simp
    rw [hf]
    obtain ⟨a, cap, rfl, hn, hc⟩ := h
    obtain ⟨a', cap', rfl, hn', hc'⟩ := h'
    clear hn hc hn' hc' hf
    go_enter Tryd.func13, Tryd.ntmps13
    go_wp2
    go_ret
    exact ⟨rfl, Below.refl _ _⟩
  · have hp0 : 0 < p.length := List.length_pos_iff.mpr hp
    have hb0 : ((p.length : Int) == 0) = false := by simp; omega
    by_cases hlong : l.length < p.length
    · have hlong' : (l.length : Int) < (p.length : Int) := by omega
      have hf : decide (0 < places p l) = false := by rw [places_short p l hlong]; rfl
      rw [hf]
      obtain ⟨a, cap, rfl, hn, hc⟩ := h
      obtain ⟨a', cap', rfl, hn', hc'⟩ := h'
      clear hn hc hn' hc' hf hp
      go_enter Tryd.func13, Tryd.ntmps13
      go_wp2
      go_ret
      exact ⟨rfl, Below.refl _ _⟩
    · have hlong' : ¬ (l.length : Int) < (p.length : Int) := by omega
      have hrb := rowB_of h' hp
      have HN := hide (newSeeker_any v' p w hp hpl hrb)
      obtain ⟨a, cap, rfl, hn, hc⟩ := h
      obtain ⟨a', cap', rfl, hn', hc'⟩ := h'
      have HC := hide hc
      have HRB := hide hrb
      have HP := hide hp
      clear hn hc hn' hc' hrb hp
      go_enter Tryd.func13, Tryd.ntmps13
      go_wp2_with fail
      refine (unhide HN).mono ?_
      rintro e w1 ⟨g, back, rfl, hg1, hg2, hbk, hbl, hB, hb1⟩
      have hz1 := hb1.size
      have HS1 := hide (skr_new (unhide HRB) hb1 hg2 hbk hbl)
      have HB1 := hide (hb1.alloc hz1 (.cells #[.slice a' p.length cap', .int .i64 0, .slice (some ⟨g, 0, none⟩) p.length p.length] 73))
      have HBK := hide hB
      unfold skrV
      clear hbk hbl hB hb1 HN
      go_wp2
      generalize hw2 : World.alloc w1 _ = w2
      rw [hw2] at HS1 HB1
      go_loopw [25] (fun z wr => ∃ (k h : Nat), z = .int .i64 k ∧ k ≤ l.length ∧ Hid (Skr wr w1.heap.size (.slice a' p.length cap') g p back h) ∧ Hid (Top p (l.take k) h) ∧ Hid (cnt p [] (l.take k) = 0) ∧ Hid (Below w.heap.size w wr)) (fun z _ => l.length - (intOf z).toNat)
      case atStart => exact ⟨0, 0, rfl, Nat.zero_le _, HS1, hide (by simpa using top_nil p), hide rfl, HB1⟩
      case round =>
        obtain ⟨k, h, rfl, hk, HS, HT, HCN, HB⟩ := hrel
        by_cases hlt : k < l.length
        · have hx : ∃ b off, a = some ⟨b, off, none⟩ ∧ wr.cell? ⟨b, off + k, none⟩ = some (.int .i32 l[k]) := by
            rcases unhide HC with h | ⟨b, off, ha, hb, hcj⟩
            · subst h; simp at hlt
            · exact ⟨b, off, ha, ((unhide HB).cell (p := ⟨b, off + k, none⟩) hb).trans (hcj k hlt)⟩
          obtain ⟨b, off, rfl, hcx⟩ := hx
          have hlt1 : (k : Int) < (l.length : Int) := by omega
          have HTK := hide (takes_any w1.heap.size _ g p (l.take k) back h p.length l[k] wr (unhide HS) (unhide HP) hpl (unhide HT) (unhide HBK) (top_le (unhide HT)))
          have HTS := hide (List.take_succ_eq_append_getElem hlt)
          have HCS := hide (cnt_snoc p (l.take k) [] l[k])
          generalize l[k] = x at hcx HTK HTS HCS
          by_cases hit : p <:+ l.take k ++ [x]
          · have hfin : decide (0 < places p l) = true := has_of (unhide HP) (k := k + 1) (by rw [unhide HTS]; exact hit)
            rw [decide_eq_true hit] at HTK
            have HF := hide hfin
            clear hfin hit
            go_wp2_with fail
            refine (unhide HTK).mono ?_
            rintro e w4 ⟨rfl, b4, _⟩
            have HB4 := hide ((unhide HB).trans (b4.mono hz1))
            clear b4 HTK
            go_wp2
            go_ret
            exact ⟨by rw [unhide HF]; rfl, unhide HB4⟩
          · rw [decide_eq_false hit] at HTK
            have HCN2 : Hid (cnt p [] (l.take (k + 1)) = 0) := by
              rw [unhide HTS, unhide HCS, List.nil_append, if_neg hit]
              exact HCN
            clear hit
            go_wp2_with fail
            refine (unhide HTK).mono ?_
            rintro e w4 ⟨rfl, b4, h4, s4, t4⟩
            rw [← unhide HTS] at t4
            have HB4 := hide ((unhide HB).trans (b4.mono hz1))
            have HS4 := hide s4
            have HT4 := hide t4
            clear b4 s4 t4 HTK
            go_wp2
            exact ⟨⟨k + 1, h4, by go_num, by omega, HS4, HT4, HCN2, HB4⟩, by simp [intOf]; omega⟩
        · have hfin : decide (0 < places p l) = false := by
            have h1 := unhide HCN
            rw [List.take_of_length_le (by omega), cnt_all p l (unhide HP)] at h1
            rw [h1]; rfl
          have HF := hide hfin
          clear hfin
          go_wp2
          go_ret
          exact ⟨by rw [unhide HF]; rfl, unhide HB⟩

end Go.Proofs.YtekhfbbnlojcoaaDoor
