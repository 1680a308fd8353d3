/-
  Texts in memory, and what missiveref02.Same does, over this seat's program.
-/
import Derived.Test.YtmfkhbofmaonkaaCut
import Derived.Laws.AppendOwn
import Derived.OwnWalk
set_option linter.unusedVariables false
namespace Go.Proofs.Ytmfkhbofmaonkaa
open Go.RowKit Go.Proofs.Dsk

/-- The value v is a slice of texts whose elements are l. -/
def RowS (w : World) (v : Value) (l : List ByteArray) : Prop :=
  ∃ (a : Option Addr) (cap : Nat), v = .slice a l.length cap ∧ l.length ≤ 9223372036854775807 ∧ (∀ s ∈ l, s.size ≤ 9223372036854775807) ∧
    (l = [] ∨ ∃ b off, a = some ⟨b, off, none⟩ ∧ b < w.heap.size ∧ ∀ j (h : j < l.length), w.cell? ⟨b, off + j, none⟩ = some (.string l[j]))


theorem RowS.below {w w' : World} {v : Value} {l : List ByteArray} (h : RowS w v l) (hb : Below w.heap.size w w') : RowS w' v l := by
  obtain ⟨a, cap, hv, hl, hn, hc⟩ := h
  refine ⟨a, cap, hv, hl, hn, ?_⟩
  rcases hc with hc | ⟨b, off, ha, hlt, hc⟩
  · exact Or.inl hc
  · have := hb.size
    refine Or.inr ⟨b, off, ha, by omega, fun j hj => ?_⟩
    rw [hb.cell (p := ⟨b, off + j, none⟩) hlt]
    exact hc j hj


theorem strInfo : (Try.prog.info? 9).map (fun i => (i.zero, i.size, i.bytes)) = some (some (.string ByteArray.empty), 1, 16) := by kernel_rfl


/-- Texts as cells of a row. -/
def cellsS (l : List ByteArray) : List Value := l.map Value.string


theorem cellsS_snoc (l : List ByteArray) (x : ByteArray) : cellsS l ++ [Value.string x] = cellsS (l ++ [x]) := by simp [cellsS]


theorem rowS_of_own {w : World} {B : Nat} {e : TypeId} {v : Value} {l : List ByteArray} (h : w.ownsRow B e 1 v l.length (cellsS l)) (h6 : l.length ≤ 9223372036854775807) (hn : ∀ s ∈ l, s.size ≤ 9223372036854775807) : RowS w v l := by
  rcases h.2 with ⟨hv, h0⟩ | ⟨g, cap, cur, hv, hg, hh, hc, hm, hs, ht⟩
  · have : l = [] := List.eq_nil_of_length_eq_zero h0
    subst this
    exact ⟨none, 0, hv, by simp, by simp, Or.inl rfl⟩
  · refine ⟨_, cap, hv, h6, hn, Or.inr ⟨g, 0, rfl, (Array.getElem?_eq_some_iff.1 hh).1, fun j hj => ?_⟩⟩
    have h1 : (cur.toList.take (l.length * 1))[j]? = (cellsS l)[j]? := by rw [ht]
    have h2 : (cellsS l)[j]? = some (.string l[j]) := by simp [cellsS, List.getElem?_eq_getElem hj]
    rw [h2, List.getElem?_take, if_pos (by omega)] at h1
    simp only [World.cell?, hh, Nat.zero_add]
    simpa using h1


theorem takeS_next {l r : List ByteArray} {k : Nat} (hl : k < l.length) (hr : k < r.length) : l.take (k + 1) = r.take (k + 1) ↔ l.take k = r.take k ∧ l[k] = r[k] := by
  rw [List.take_succ_eq_append_getElem hl, List.take_succ_eq_append_getElem hr]
  constructor
  · intro h
    have := List.append_inj' h rfl
    exact ⟨this.1, by simpa using this.2⟩
  · rintro ⟨h1, h2⟩
    rw [h1, h2]


set_option maxHeartbeats 400000 in
theorem sameS_len (a b : Option Addr) (n m c d : Nat) (w : World) (h : n ≠ m) :
    Calls Try.prog 18 #[.slice a n c, .slice b m d] w fun e w' => e = .returned (.bool false) ∧ Below w.heap.size w w' := by
  have hb : ((n : Int) == (m : Int)) = false := by simp; omega
  go_enter Try.func18, Try.ntmps18
  go_wp2
  go_ret
  exact ⟨rfl, Below.refl _ _⟩


set_option maxHeartbeats 400000 in
theorem sameS_nil (a b : Option Addr) (c d : Nat) (w : World) :
    Calls Try.prog 18 #[.slice a 0 c, .slice b 0 d] w fun e w' => e = .returned (.bool true) ∧ Below w.heap.size w w' := by
  go_enter Try.func18, Try.ntmps18
  go_wp2
  go_loopw [5, 13] (fun x z wr => z = .int .i64 0 ∧ Below w.heap.size w wr) (fun _ _ _ => 0)
  case atStart => exact ⟨rfl, Below.refl _ _⟩
  case round =>
    obtain ⟨rfl, hbw⟩ := hrel
    go_wp2
    go_ret
    exact ⟨rfl, hbw⟩


set_option maxHeartbeats 1000000 in
set_option maxRecDepth 100000 in
theorem sameS_some (b off cap b' off' cap' : Nat) (l r : List ByteArray) (w : World) (hlr : l.length = r.length) (h63 : l.length ≤ 9223372036854775807) (hb : b < w.heap.size) (hb' : b' < w.heap.size)
    (hc : ∀ j (h : j < l.length), w.cell? ⟨b, off + j, none⟩ = some (.string l[j])) (hc' : ∀ j (h : j < r.length), w.cell? ⟨b', off' + j, none⟩ = some (.string r[j])) :
    Calls Try.prog 18 #[.slice (some ⟨b, off, none⟩) l.length cap, .slice (some ⟨b', off', none⟩) r.length cap'] w fun e w' => e = .returned (.bool (decide (l = r))) ∧ Below w.heap.size w w' := by
  have HC := hide hc
  have HC' := hide hc'
  have hbe : ((l.length : Int) == (r.length : Int)) = true := by simp [hlr]
  have HLR := hide hlr
  clear hc hc' hlr
  go_enter Try.func18, Try.ntmps18
  go_wp2
  go_loopw [5, 13] (fun x z wr => ∃ k : Nat, z = .int .i64 k ∧ k ≤ l.length ∧ l.take k = r.take k ∧ Below w.heap.size w wr) (fun _ z _ => l.length - (intOf z).toNat)
  case atStart => exact ⟨0, rfl, Nat.zero_le _, rfl, Below.refl _ _⟩
  case round =>
    obtain ⟨k, rfl, hk, htk, hbw⟩ := hrel
    have HT := hide htk
    clear htk
    by_cases hlt : k < l.length
    · have hlt' : k < r.length := by have := unhide HLR; omega
      have hcx : wr.cell? ⟨b, off + k, none⟩ = some (.string l[k]) := (hbw.cell (p := ⟨b, off + k, none⟩) hb).trans (unhide HC k hlt)
      have hcy : wr.cell? ⟨b', off' + k, none⟩ = some (.string r[k]) := (hbw.cell (p := ⟨b', off' + k, none⟩) hb').trans (unhide HC' k hlt')
      have hlt1 : (k : Int) < (l.length : Int) := by omega
      have hlt2 : (k : Int) < (r.length : Int) := by omega
      by_cases he : l[k] = r[k]
      · have hbq : (l[k].toList == r[k].toList) = true := by rw [he]; simp
        have hnx : l.take (k + 1) = r.take (k + 1) := (takeS_next hlt hlt').2 ⟨unhide HT, he⟩
        have HN := hide hnx
        clear hnx he
        generalize l[k] = x at hcx hbq
        generalize r[k] = y at hcy hbq
        go_wp2
        go_quiet (fail)
        go_wp2
        exact ⟨⟨k + 1, by go_num, by omega, unhide HN, below_drewN hbw _⟩, by simp [intOf]; omega⟩
      · have hbq : (l[k].toList == r[k].toList) = false := by rw [beqS]; simpa using he
        have hfin : decide (l = r) = false := by
          rw [decide_eq_false_iff_not]
          intro h
          subst h
          exact he rfl
        have HF := hide hfin
        clear hfin he
        generalize l[k] = x at hcx hbq
        generalize r[k] = y at hcy hbq
        go_wp2
        go_quiet (fail)
        go_wp2
        go_ret
        exact ⟨by rw [unhide HF]; rfl, below_drewN hbw _⟩
    · have hfin : decide (l = r) = true := by
        rw [decide_eq_true_iff]
        have h1 := unhide HT
        have h2 := unhide HLR
        rw [List.take_of_length_le (by omega), List.take_of_length_le (by omega)] at h1
        exact h1
      have HF := hide hfin
      clear hfin
      go_wp2
      go_ret
      exact ⟨by rw [unhide HF]; rfl, hbw⟩


/-- Same tells whether the two lists of texts are one. -/
theorem sameS_any (v v' : Value) (l r : List ByteArray) (w : World) (h : RowS w v l) (h' : RowS w v' r) :
    Calls Try.prog 18 #[v, v'] w fun e w' => e = .returned (.bool (decide (l = r))) ∧ Below w.heap.size w w' := by
  obtain ⟨a, cap, rfl, hl, hn, hc⟩ := h
  obtain ⟨a', cap', rfl, hl', hn', hc'⟩ := h'
  by_cases hlr : l.length = r.length
  · rcases hc with rfl | ⟨b, off, rfl, hb, hc⟩
    · have hr : r = [] := by
        apply List.eq_nil_of_length_eq_zero
        rw [← hlr]; rfl
      subst hr
      exact sameS_nil a a' cap cap' w
    · rcases hc' with rfl | ⟨b', off', rfl, hb', hc'⟩
      · have hr : l = [] := by
          apply List.eq_nil_of_length_eq_zero
          rw [hlr]; rfl
        subst hr
        exact sameS_nil _ a' cap cap' w
      · exact sameS_some b off cap b' off' cap' l r w hlr hl hb hb' hc hc'
  · have : decide (l = r) = false := by
      rw [decide_eq_false_iff_not]
      intro h
      exact hlr (by rw [h])
    rw [this]
    exact sameS_len a a' _ _ cap cap' w hlr

end Go.Proofs.Ytmfkhbofmaonkaa
