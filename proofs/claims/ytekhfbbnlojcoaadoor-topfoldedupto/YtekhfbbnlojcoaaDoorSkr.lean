/-
  What (*fold.seeker).takes and fold.newSeeker do, over this seat's program: a list is looked for in numbers that come one by one.
-/
import Derived.Test.YtekhfbbnlojcoaaDoorRsn
import Derived.Test.YtekhfbbnlojcoaaDoorKmp
set_option linter.unusedVariables false
namespace Go.Proofs.YtekhfbbnlojcoaaDoor
open Go.RowKit Go.Proofs.Rns Go.Proofs.Kmp

/-- The value v is a slice of letters whose elements are l, and lies below B. -/
def RowB (B : Nat) (w : World) (v : Value) (l : List Int) : Prop :=
  ∃ (b off cap : Nat), v = .slice (some ⟨b, off, none⟩) l.length cap ∧ b < B ∧ ∀ j (h : j < l.length), w.cell? ⟨b, off + j, none⟩ = some (.int .i32 l[j])
theorem RowB.below {B : Nat} {w w' : World} {v : Value} {l : List Int} (h : RowB B w v l) (hb : Below B w w') : RowB B w' v l := by
  obtain ⟨b, off, cap, hv, hlt, hc⟩ := h
  refine ⟨b, off, cap, hv, hlt, fun j hj => ?_⟩
  rw [hb.cell (p := ⟨b, off + j, none⟩) hlt]
  exact hc j hj
/-- Numbers' cells. -/
def natC (l : List Nat) : List Value := l.map fun n : Nat => Value.int .i64 (n : Int)
/-- The seeker at block B. -/
structure Skr (w : World) (B : Nat) (v : Value) (g : Nat) (p : List Int) (back : List Nat) (h : Nat) : Prop where
  blk : Blk w B 73 #[v, .int .i64 (h : Int), .slice (some ⟨g, 0, none⟩) p.length p.length]
  row : RowB B w v p
  bck : Blk w g 3 (natC back).toArray
  low : g < B
  len : back.length = p.length
theorem Skr.cells {w : World} {B : Nat} {v : Value} {g : Nat} {p : List Int} {back : List Nat} {h : Nat} (s : Skr w B v g p back h) :
    w.cell? ⟨B, 0, none⟩ = some v ∧ w.cell? ⟨B, 1, none⟩ = some (.int .i64 (h : Int)) ∧ w.cell? ⟨B, 2, none⟩ = some (.slice (some ⟨g, 0, none⟩) p.length p.length) ∧ w.frozen? ⟨B, 1, none⟩ = false :=
  ⟨by rw [Blk.cell s.blk]; rfl, by rw [Blk.cell s.blk]; rfl, by rw [Blk.cell s.blk]; rfl, Blk.frozen s.blk 1⟩
theorem Skr.at_back {w : World} {B : Nat} {v : Value} {g : Nat} {p : List Int} {back : List Nat} {h i b : Nat} (s : Skr w B v g p back h) (hi : back[i]? = some b) : w.cell? ⟨g, i, none⟩ = some (.int .i64 (b : Int)) := by
  rw [Blk.cell s.bck]
  simp [natC, hi]
theorem blk_below {w w' : World} {B g : Nat} {t : TypeId} {cs : Array Value} (h : Blk w g t cs) (hb : Below B w w') (hg : g < B) : Blk w' g t cs := by
  unfold Blk at *
  rw [hb.block g hg]; exact h
theorem Skr.set {w : World} {B : Nat} {v : Value} {g : Nat} {p : List Int} {back : List Nat} {h : Nat} (s : Skr w B v g p back h) (k : Nat) : Skr (w.setCell ⟨B, 1, none⟩ (.int .i64 (k : Int))) B v g p back k := by
  have hb : Below B w (w.setCell ⟨B, 1, none⟩ (.int .i64 (k : Int))) := (Below.refl B w).setCell (Nat.le_refl _) _
  exact ⟨Blk.set s.blk 1 _, s.row.below hb, blk_below s.bck hb s.low, s.low, s.len⟩
/-- What the seeker has. -/
def haveOf (B : Nat) (w : World) : Nat := (intOf ((w.cell? ⟨B, 1, none⟩).getD undef)).toNat
theorem haveOf_eq {w : World} {B : Nat} {v : Value} {g : Nat} {p : List Int} {back : List Nat} {h : Nat} (s : Skr w B v g p back h) : haveOf B w = h := by
  unfold haveOf
  rw [s.cells.2.1]
  simp [intOf]
theorem Skr.drewN {w : World} {B : Nat} {v : Value} {g : Nat} {p : List Int} {back : List Nat} {h : Nat} (s : Skr w B v g p back h) (n : Nat) : Skr (w.drewN n) B v g p back h := ⟨s.blk, s.row, s.bck, s.low, s.len⟩
theorem full_eq {p t : List Int} {h : Nat} (ht : Top p t h) : ((h : Int) == (p.length : Int)) = decide (p <:+ t) := by
  rw [← top_full ht]
  by_cases e : h = p.length
  · simp [e]
  · rw [decide_eq_false e]
    simp
    omega

set_option maxHeartbeats 4000000 in
set_option maxRecDepth 100000 in
/-- One number more. -/
theorem takes_any (B : Nat) (v : Value) (g : Nat) (p t : List Int) (back : List Nat) (h m : Nat) (n : Int) (w : World) (hs : Skr w B v g p back h) (hp : p ≠ []) (hp63 : p.length ≤ 2097152)
    (ht : Top p t h) (hback : Back p back m) (hm : h ≤ m) :
    Calls Tryd.prog 35 #[.pointer (some ⟨B, 0, none⟩), .int .i32 n] w fun e w' => e = .returned (.bool (decide (p <:+ t ++ [n]))) ∧ Below B w w' ∧ ∃ h', Skr w' B v g p back h' ∧ Top p (t ++ [n]) h' := by
  obtain ⟨b, off, cap, hv, hbB, hcp⟩ := hs.row
  have hp0 : 0 < p.length := List.length_pos_iff.mpr hp
  subst hv
  have HS := hide hs
  have HL := hide (look_start (n := n) ht)
  have HK := hide hback
  clear hs ht hback hcp hp
  go_enter Tryd.func35, Tryd.ntmps35
  go_wp2
  go_loopw [35] (fun x wr => ∃ k : Nat, k ≤ m ∧ Hid (Skr wr B (.slice (some ⟨b, off, none⟩) p.length cap) g p back k) ∧ Hid (Look p t n k) ∧ Hid (Below B w wr)) (fun _ wr => haveOf B wr)
  case atStart => exact ⟨h, hm, HS, HL, hide (Below.refl _ _)⟩
  case round =>
    obtain ⟨k, hkm, HS1, HL1, HB1⟩ := hrel
    have hk63 : k ≤ p.length := (unhide HL1).1.1
    have HM := hide (haveOf_eq (unhide HS1))
    obtain ⟨c0, c1, c2, f1⟩ := (unhide HS1).cells
    have hcell : ∀ (hk : k < p.length), wr.cell? ⟨b, off + k, none⟩ = some (.int .i32 p[k]) := by
      obtain ⟨b', off', cap', hv', hb', hc'⟩ := (unhide HS1).row
      simp only [Value.slice.injEq, Option.some.injEq, Addr.mk.injEq] at hv'
      obtain ⟨⟨rfl, rfl, _⟩, _, _⟩ := hv'
      exact fun hk => hc' k hk
    by_cases hgo : 0 < k ∧ p[k]? ≠ some n
    · obtain ⟨h0, hne⟩ := hgo
      have hk0 : (0 : Int) < (k : Int) := by omega
      have hd : decide (0 < k) = true := by simp; omega
      obtain ⟨k1, hk1⟩ : ∃ k1, k1 = k - 1 := ⟨k - 1, rfl⟩
      obtain ⟨bk, hbk, htop⟩ := unhide HK k1 (by omega)
      have hcb := (unhide HS1).at_back hbk
      have v1 : IntKind.i64.wrap ((k : Int) - 1) = (k1 : Int) := by rw [IntKind.wrap_i64]; omega
      have hg : (k1 : Int) < (p.length : Int) := by omega
      obtain ⟨hl, hlt⟩ := look_down (unhide HL1) h0 (by rw [← hk1]; exact htop) hne
      have HLN := hide hl
      have HFIN : Hid (∀ q, Skr ((wr.drewN q).setCell ⟨B, 1, none⟩ (.int .i64 (bk : Int))) B (.slice (some ⟨b, off, none⟩) p.length cap) g p back bk ∧ Below B w ((wr.drewN q).setCell ⟨B, 1, none⟩ (.int .i64 (bk : Int)))) :=
        hide fun q => ⟨((unhide HS1).drewN q).set bk, (below_drewN (unhide HB1) q).setCell (Nat.le_refl _) _⟩
      have HMS : Hid (∀ q, haveOf B ((wr.drewN q).setCell ⟨B, 1, none⟩ (.int .i64 (bk : Int))) < haveOf B wr) := hide fun q => by
        rw [haveOf_eq ((unhide HFIN q).1), unhide HM]; exact hlt
      have hbm : bk ≤ m := by omega
      clear hbk htop hl hlt HM
      by_cases hfull : k = p.length
      · have hb1 : ((k : Int) == (p.length : Int)) = true := by simp [hfull]
        clear hne hcell hfull h0 hk1
        go_wp2
        go_quiet (fail)
        go_wp2
        go_region
        go_wp2
        exact ⟨⟨bk, hbm, hide (unhide HFIN _).1, HLN, hide (unhide HFIN _).2⟩, unhide HMS _⟩
      · have hb1 : ((k : Int) == (p.length : Int)) = false := by simp; omega
        have hkl : k < p.length := by omega
        have hcc := hcell hkl
        have hkl' : (k : Int) < (p.length : Int) := by omega
        have hb2 : (p[k] != n) = true := by
          rw [List.getElem?_eq_getElem hkl] at hne
          simpa using hne
        generalize p[k] = x at hcc hb2
        clear hne hcell hfull h0 hk1
        go_wp2
        go_quiet (fail)
        go_wp2
        go_region
        go_wp2
        exact ⟨⟨bk, hbm, hide (unhide HFIN _).1, HLN, hide (unhide HFIN _).2⟩, unhide HMS _⟩
    · have hkl : k < p.length := by
        by_cases h0 : 0 < k
        · have : p[k]? = some n := by
            by_cases hx : p[k]? = some n
            · exact hx
            · exact absurd ⟨h0, hx⟩ hgo
          exact (List.getElem?_eq_some_iff.mp this).1
        · omega
      have hcc := hcell hkl
      have hkl' : (k : Int) < (p.length : Int) := by omega
      have hb1 : ((k : Int) == (p.length : Int)) = false := by simp; omega
      by_cases he : p[k] = n
      · have hb2 : (p[k] != n) = false := by simp [he]
        have hb3 : (p[k] == n) = true := by simp [he]
        have hT := look_hit (unhide HL1) (by rw [List.getElem?_eq_getElem hkl, he])
        obtain ⟨k2, hk2⟩ : ∃ k2, k + 1 = k2 := ⟨_, rfl⟩
        rw [hk2] at hT
        have HK2 := hide hk2
        clear hk2
        have hfe := full_eq hT
        have HT := hide hT
        generalize p[k] = x at hcc hb2 hb3
        clear hT hcell he hgo
        by_cases h0 : 0 < k
        · have hk0 : (0 : Int) < (k : Int) := by omega
          have hd : decide (0 < k) = true := by simp; omega
          clear h0
          go_wp2
          go_quiet (fail)
          go_wp2
          go_quiet (fail)
          go_wp2
          generalize hw1 : World.setCell _ _ _ = w1
          have hS2 : Skr w1 B (.slice (some ⟨b, off, none⟩) p.length cap) g p back k2 := by rw [← hw1, ← unhide HK2]; exact ((unhide HS1).drewN _).set (k + 1)
          have hB2 : Below B w w1 := by rw [← hw1]; exact (below_drewN (unhide HB1) _).setCell (p := ⟨B, 1, none⟩) (Nat.le_refl _) _
          have HS2 := hide hS2
          have HB2 := hide hB2
          clear hw1 c0 c1 c2 f1 hB2
          obtain ⟨c0, c1, c2, f1⟩ := hS2.cells
          clear hS2
          go_quiet (fail)
          go_wp2
          go_ret
          exact ⟨ret_b (by rw [← hfe]), below_drewN (unhide HB2) _, k2, (unhide HS2).drewN _, unhide HT⟩
        · have hd : decide (0 < k) = false := by simp; omega
          clear h0
          go_wp2
          go_quiet (fail)
          go_wp2
          go_quiet (fail)
          go_wp2
          generalize hw1 : World.setCell _ _ _ = w1
          have hS2 : Skr w1 B (.slice (some ⟨b, off, none⟩) p.length cap) g p back k2 := by rw [← hw1, ← unhide HK2]; exact ((unhide HS1).drewN _).set (k + 1)
          have hB2 : Below B w w1 := by rw [← hw1]; exact (below_drewN (unhide HB1) _).setCell (p := ⟨B, 1, none⟩) (Nat.le_refl _) _
          have HS2 := hide hS2
          have HB2 := hide hB2
          clear hw1 c0 c1 c2 f1 hB2
          obtain ⟨c0, c1, c2, f1⟩ := hS2.cells
          clear hS2
          go_quiet (fail)
          go_wp2
          go_ret
          exact ⟨ret_b (by rw [← hfe]), below_drewN (unhide HB2) _, k2, (unhide HS2).drewN _, unhide HT⟩
      · have h0 : k = 0 := by
          rcases Nat.eq_zero_or_pos k with h | h
          · exact h
          · exact absurd ⟨h, by rw [List.getElem?_eq_getElem hkl]; simpa using he⟩ hgo
        have hb3 : (p[k] == n) = false := by simpa using he
        have hT : Top p (t ++ [n]) k := by
          subst h0
          exact look_miss (unhide HL1) (by rw [List.getElem?_eq_getElem hkl]; simpa using he)
        have hfe := full_eq hT
        have HT := hide hT
        have hd : decide (0 < k) = false := by simp; omega
        generalize p[k] = x at hcc hb3
        clear hT hcell he hgo h0
        go_wp2
        go_quiet (fail)
        go_wp2
        go_quiet (fail)
        go_wp2
        go_quiet (fail)
        go_wp2
        go_ret
        exact ⟨ret_b (by rw [← hfe, hb1]), below_drewN (below_drewN (below_drewN (unhide HB1) _) _) _, k, (((unhide HS1).drewN _).drewN _).drewN _, unhide HT⟩
end Go.Proofs.YtekhfbbnlojcoaaDoor
