/-
  What missiveref08.Same does, and a row of fields that is laid as it is told, over this seat's program.
-/
import Derived.Test.YtedpimhhbajljaaGreatDoorMmj
import Derived.BigQuiet
set_option linter.unusedVariables false
namespace Go.Proofs.YtedpimhhbajljaaGreatDoor
open Go.RowKit Go.Proofs.Hed

theorem takeF_next {l r : List Fld} {k : Nat} (hl : k < l.length) (hr : k < r.length) : l.take (k + 1) = r.take (k + 1) ↔ l.take k = r.take k ∧ l[k] = r[k] := by
  rw [List.take_succ_eq_append_getElem hl, List.take_succ_eq_append_getElem hr]
  constructor
  · intro h
    have := List.append_inj' h rfl
    exact ⟨this.1, by simpa using this.2⟩
  · rintro ⟨h1, h2⟩
    rw [h1, h2]

set_option maxHeartbeats 400000 in
theorem sameF_len (a b : Option Addr) (n m c d : Nat) (w : World) (h : n ≠ m) :
    Calls Tryz.prog 9 #[.slice a n c, .slice b m d] w fun e w' => e = .returned (.bool false) ∧ Below w.heap.size w w' := by
  have hb : ((n : Int) == (m : Int)) = false := by simp; omega
  go_enter Tryz.func9, Tryz.ntmps9
  go_wp2
  go_ret
  exact ⟨rfl, Below.refl _ _⟩


set_option maxHeartbeats 400000 in
theorem sameF_nil (a b : Option Addr) (c d : Nat) (w : World) :
    Calls Tryz.prog 9 #[.slice a 0 c, .slice b 0 d] w fun e w' => e = .returned (.bool true) ∧ Below w.heap.size w w' := by
  go_enter Tryz.func9, Tryz.ntmps9
  go_wp2
  go_loopw [5, 13] (fun x z wr => z = .int .i64 0 ∧ Below w.heap.size w wr) (fun _ _ _ => 0)
  case atStart => exact ⟨rfl, Below.refl _ _⟩
  case round =>
    obtain ⟨rfl, hbw⟩ := hrel
    go_wp2
    go_ret
    exact ⟨rfl, hbw⟩


set_option maxHeartbeats 1000000 in
set_option maxRecDepth 100000 in
theorem sameF_some (b off cap b' off' cap' : Nat) (l r : List Fld) (w : World) (hlr : l.length = r.length) (h63 : l.length ≤ 9223372036854775807) (hb : b < w.heap.size) (hb' : b' < w.heap.size)
    (hc : ∀ j u, (flatF l)[j]? = some u → w.cell? ⟨b, off + j, none⟩ = some u) (hc' : ∀ j u, (flatF r)[j]? = some u → w.cell? ⟨b', off' + j, none⟩ = some u) :
    Calls Tryz.prog 9 #[.slice (some ⟨b, off, none⟩) l.length cap, .slice (some ⟨b', off', none⟩) r.length cap'] w fun e w' => e = .returned (.bool (decide (l = r))) ∧ Below w.heap.size w w' := by
  have HC := hide hc
  have HC' := hide hc'
  have hbe : ((l.length : Int) == (r.length : Int)) = true := by simp [hlr]
  have HLR := hide hlr
  clear hc hc' hlr
  go_enter Tryz.func9, Tryz.ntmps9
  go_wp2
  go_loopw [5, 13] (fun x z wr => ∃ k : Nat, z = .int .i64 k ∧ k ≤ l.length ∧ l.take k = r.take k ∧ Below w.heap.size w wr) (fun _ z _ => l.length - (intOf z).toNat)
  case atStart => exact ⟨0, rfl, Nat.zero_le _, rfl, Below.refl _ _⟩
  case round =>
    obtain ⟨k, rfl, hk, htk, hbw⟩ := hrel
    have HT := hide htk
    clear htk
    by_cases hlt : k < l.length
    · have hlt' : k < r.length := by have := unhide HLR; omega
      have hcx0 : wr.cell? ⟨b, off + k * 2, none⟩ = some (.string l[k].1) := (hbw.cell (p := ⟨b, off + k * 2, none⟩) hb).trans (row_cells (unhide HC) hlt).1
      have hcx1 : wr.cell? ⟨b, off + k * 2 + 1, none⟩ = some (.string l[k].2) := (hbw.cell (p := ⟨b, off + k * 2 + 1, none⟩) hb).trans (row_cells (unhide HC) hlt).2
      have hcy0 : wr.cell? ⟨b', off' + k * 2, none⟩ = some (.string r[k].1) := (hbw.cell (p := ⟨b', off' + k * 2, none⟩) hb').trans (row_cells (unhide HC') hlt').1
      have hcy1 : wr.cell? ⟨b', off' + k * 2 + 1, none⟩ = some (.string r[k].2) := (hbw.cell (p := ⟨b', off' + k * 2 + 1, none⟩) hb').trans (row_cells (unhide HC') hlt').2
      have hlt1 : (k : Int) < (l.length : Int) := by omega
      have hlt2 : (k : Int) < (r.length : Int) := by omega
      by_cases he : l[k] = r[k]
      · have hbq : (l[k].1.toList == r[k].1.toList) = true := by rw [he]; simp
        have hbq2 : (l[k].2.toList == r[k].2.toList) = true := by rw [he]; simp
        have hnx : l.take (k + 1) = r.take (k + 1) := (takeF_next hlt hlt').2 ⟨unhide HT, he⟩
        have HN := hide hnx
        clear hnx he
        generalize l[k].1 = x1 at hcx0 hbq
        generalize l[k].2 = x2 at hcx1 hbq2
        generalize r[k].1 = y1 at hcy0 hbq
        generalize r[k].2 = y2 at hcy1 hbq2
        go_wp2
        go_quiet (fail)
        go_wp2
        exact ⟨⟨k + 1, by go_num, by omega, unhide HN, below_drewN hbw _⟩, by simp [intOf]; omega⟩
      · have hfin : decide (l = r) = false := by
          rw [decide_eq_false_iff_not]
          intro h
          subst h
          exact he rfl
        have HF := hide hfin
        clear hfin
        by_cases h1 : l[k].1 = r[k].1
        · have hbq : (l[k].1.toList == r[k].1.toList) = true := by rw [h1]; simp
          have hbq2 : (l[k].2.toList == r[k].2.toList) = false := by
            rw [beqS]
            exact decide_eq_false (fun h2 => he (Prod.ext h1 h2))
          clear he h1
          generalize l[k].1 = x1 at hcx0 hbq
          generalize l[k].2 = x2 at hcx1 hbq2
          generalize r[k].1 = y1 at hcy0 hbq
          generalize r[k].2 = y2 at hcy1 hbq2
          go_wp2
          go_quiet (fail)
          go_wp2
          go_ret
          exact ⟨by rw [unhide HF]; rfl, below_drewN hbw _⟩
        · have hbq : (l[k].1.toList == r[k].1.toList) = false := by rw [beqS]; exact decide_eq_false h1
          clear he h1
          generalize l[k].1 = x1 at hcx0 hbq
          generalize l[k].2 = x2 at hcx1
          generalize r[k].1 = y1 at hcy0 hbq
          generalize r[k].2 = y2 at hcy1
          go_wp2
          go_quiet (fail)
          go_wp2
          go_ret
          exact ⟨by rw [unhide HF]; rfl, below_drewN hbw _⟩
    · have hfin : decide (l = r) = true := by
        rw [decide_eq_true_iff]
        have h1 := unhide HT
        have h2 := unhide HLR
        rw [List.take_of_length_le (by omega), List.take_of_length_le (by omega)] at h1
        exact h1
      have HF := hide hfin
      clear hfin
      go_wp2
      go_ret
      exact ⟨by rw [unhide HF]; rfl, hbw⟩


/-- Same tells whether the two lists of texts are one. -/
theorem sameF_any (v v' : Value) (l r : List Fld) (w : World) (h : RowF w v l) (h' : RowF w v' r) :
    Calls Tryz.prog 9 #[v, v'] w fun e w' => e = .returned (.bool (decide (l = r))) ∧ Below w.heap.size w w' := by
  obtain ⟨a, cap, rfl, hl, hn, hc⟩ := h
  obtain ⟨a', cap', rfl, hl', hn', hc'⟩ := h'
  by_cases hlr : l.length = r.length
  · rcases hc with rfl | ⟨b, off, rfl, hb, hc⟩
    · have hr : r = [] := by
        apply List.eq_nil_of_length_eq_zero
        rw [← hlr]; rfl
      subst hr
      exact sameF_nil a a' cap cap' w
    · rcases hc' with rfl | ⟨b', off', rfl, hb', hc'⟩
      · have hr : l = [] := by
          apply List.eq_nil_of_length_eq_zero
          rw [hlr]; rfl
        subst hr
        exact sameF_nil _ a' cap cap' w
      · exact sameF_some b off cap b' off' cap' l r w hlr (by omega) hb hb' hc hc'
  · have : decide (l = r) = false := by
      rw [decide_eq_false_iff_not]
      intro h
      exact hlr (by rw [h])
    rw [this]
    exact sameF_len a a' _ _ cap cap' w hlr

theorem rowF_lit (w : World) (l : List Fld) (cs : Array Value) (hcs : cs.toList = flatF l) (hl : l.length ≤ 4194304) (hf : ∀ f ∈ l, Fits f) : RowF (w.alloc (.cells cs 40)) (.slice (some ⟨w.heap.size, 0, none⟩) l.length l.length) l := by
  refine ⟨_, _, rfl, hl, hf, .inr ⟨w.heap.size, 0, rfl, by simp, fun j u hj => ?_⟩⟩
  rw [Nat.zero_add, World.cell?_alloc_at _ _ _ _ (by simp), ← Array.getElem?_toList, hcs]
  exact hj
end Go.Proofs.YtedpimhhbajljaaGreatDoor
