/-
  What missiveref08.Same does, and a row of fields that is laid as it is told, over this seat's program.
-/
import Derived.Test.YtedpimhhbajljaaDoorMmj
import Derived.BigQuiet
import Derived.Test.YtedpimhhbajljaaDoorMmm
set_option linter.unusedVariables false
namespace Go.Proofs.YtedpimhhbajljaaDoor
open Go.RowKit Go.Proofs.Hed

theorem takeF_next {l r : List Fld} {k : Nat} (hl : k < l.length) (hr : k < r.length) : l.take (k + 1) = r.take (k + 1) ↔ l.take k = r.take k ∧ l[k] = r[k] := by
  rw [List.take_succ_eq_append_getElem hl, List.take_succ_eq_append_getElem hr]
  constructor
  · intro h
    have := List.append_inj' h rfl
    exact ⟨this.1, by simpa using this.2⟩
  · rintro ⟨h1, h2⟩
    rw [h1, h2]

set_option maxHeartbeats 400000 in
theorem sameF_len (a b : Option Addr) (n m c d : Nat) (w : World) (h : n ≠ m) :
    Calls Tryd.prog 15 #[.slice a n c, .slice b m d] w fun e w' => e = .returned (.bool false) ∧ Below w.heap.size w w' := by
  have hb : ((n : Int) == (m : Int)) = false := by simp; omega
  go_enter Tryd.func15, Tryd.ntmps15
  go_wp2
  go_ret
  exact ⟨rfl, Below.refl _ _⟩


set_option maxHeartbeats 400000 in
theorem sameF_nil (a b : Option Addr) (c d : Nat) (w : World) :
    Calls Tryd.prog 15 #[.slice a 0 c, .slice b 0 d] w fun e w' => e = .returned (.bool true) ∧ Below w.heap.size w w' := by
  go_enter Tryd.func15, Tryd.ntmps15
  go_wp2
  go_loopw [5, 13] (fun x z wr => z = .int .i64 0 ∧ Below w.heap.size w wr) (fun _ _ _ => 0)
  case atStart => exact ⟨rfl, Below.refl _ _⟩
  case round =>
    obtain ⟨rfl, hbw⟩ := hrel
    go_wp2
    go_ret
    exact ⟨rfl, hbw⟩


set_option maxHeartbeats 1000000 in
set_option maxRecDepth 100000 in
theorem sameF_some (b off cap b' off' cap' : Nat) (l r : List Fld) (w : World) (hlr : l.length = r.length) (h63 : l.length ≤ 9223372036854775807) (hb : b < w.heap.size) (hb' : b' < w.heap.size)
    (hc : ∀ j u, (flatF l)[j]? = some u → w.cell? ⟨b, off + j, none⟩ = some u) (hc' : ∀ j u, (flatF r)[j]? = some u → w.cell? ⟨b', off' + j, none⟩ = some u) :
    Calls Tryd.prog 15 #[.slice (some ⟨b, off, none⟩) l.length cap, .slice (some ⟨b', off', none⟩) r.length cap'] w fun e w' => e = .returned (.bool (decide (l = r))) ∧ Below w.heap.size w w' := by
  have HC := hide hc
  have HC' := hide hc'
  have hbe : ((l.length : Int) == (r.length : Int)) = true := by simp [hlr]
  have HLR := hide hlr
  clear hc hc' hlr
  go_enter Tryd.func15, Tryd.ntmps15
  go_wp2
  go_loopw [5, 13] (fun x z wr => ∃ k : Nat, z = .int .i64 k ∧ k ≤ l.length ∧ l.take k = r.take k ∧ Below w.heap.size w wr) (fun _ z _ => l.length - (intOf z).toNat)
  case atStart => exact ⟨0, rfl, Nat.zero_le _, rfl, Below.refl _ _⟩
  case round =>
    obtain ⟨k, rfl, hk, htk, hbw⟩ := hrel
    have HT := hide htk
    clear htk
    by_cases hlt : k < l.length
    · have hlt' : k < r.length := by have := unhide HLR; omega
      have hcx0 : wr.cell? ⟨b, off + k * 2, none⟩ = some (.string l[k].1) := (hbw.cell (p := ⟨b, off + k * 2, none⟩) hb).trans (row_cells (unhide HC) hlt).1
      have hcx1 : wr.cell? ⟨b, off + k * 2 + 1, none⟩ = some (.string l[k].2) := (hbw.cell (p := ⟨b, off + k * 2 + 1, none⟩) hb).trans (row_cells (unhide HC) hlt).2
      have hcy0 : wr.cell? ⟨b', off' + k * 2, none⟩ = some (.string r[k].1) := (hbw.cell (p := ⟨b', off' + k * 2, none⟩) hb').trans (row_cells (unhide HC') hlt').1
      have hcy1 : wr.cell? ⟨b', off' + k * 2 + 1, none⟩ = some (.string r[k].2) := (hbw.cell (p := ⟨b', off' + k * 2 + 1, none⟩) hb').trans (row_cells (unhide HC') hlt').2
      have hlt1 : (k : Int) < (l.length : Int) := by omega
      have hlt2 : (k : Int) < (r.length : Int) := by omega
      by_cases he : l[k] = r[k]
      · have hbq : (l[k].1.toList == r[k].1.toList) = true := by rw [he]; simp
        have hbq2 : (l[k].2.toList == r[k].2.toList) = true := by rw [he]; simp
        have hnx : l.take (k + 1) = r.take (k + 1) := (takeF_next hlt hlt').2 ⟨unhide HT, he⟩
        have HN := hide hnx
        clear hnx he
        generalize l[k].1 = x1 at hcx0 hbq
        generalize l[k].2 = x2 at hcx1 hbq2
        generalize r[k].1 = y1 at hcy0 hbq
        generalize r[k].2 = y2 at hcy1 hbq2
        go_wp2
        go_quiet (fail)
        go_wp2
        exact ⟨⟨k + 1, by go_num, by omega, unhide HN, below_drewN hbw _⟩, by simp [intOf]; omega⟩
      · have hfin : decide (l = r) = false := by
          rw [decide_eq_false_iff_not]
          intro h
          subst h
          exact he rfl
        have HF := hide hfin
        clear hfin
        by_cases h1 : l[k].1 = r[k].1
        · have hbq : (l[k].1.toList == r[k].1.toList) = true := by rw [h1]; simp
          have hbq2 : (l[k].2.toList == r[k].2.toList) = false := by
            rw [beqS]
            exact decide_eq_false (fun h2 => he (Prod.ext h1 h2))
          clear he h1
          generalize l[k].1 = x1 at hcx0 hbq
          generalize l[k].2 = x2 at hcx1 hbq2
          generalize r[k].1 = y1 at hcy0 hbq
          generalize r[k].2 = y2 at hcy1 hbq2
          go_wp2
          go_quiet (fail)
          go_wp2
          go_ret
          exact ⟨by rw [unhide HF]; rfl, below_drewN hbw _⟩
        · have hbq : (l[k].1.toList == r[k].1.toList) = false := by rw [beqS]; exact decide_eq_false h1
          clear he h1
          generalize l[k].1 = x1 at hcx0 hbq
          generalize l[k].2 = x2 at hcx1
          generalize r[k].1 = y1 at hcy0 hbq
          generalize r[k].2 = y2 at hcy1
          go_wp2
          go_quiet (fail)
          go_wp2
          go_ret
          exact ⟨by rw [unhide HF]; rfl, below_drewN hbw _⟩
    · have hfin : decide (l = r) = true := by
        rw [decide_eq_true_iff]
        have h1 := unhide HT
        have h2 := unhide HLR
        rw [List.take_of_length_le (by omega), List.take_of_length_le (by omega)] at h1
        exact h1
      have HF := hide hfin
      clear hfin
      go_wp2
      go_ret
      exact ⟨by rw [unhide HF]; rfl, hbw⟩


/-- Same tells whether the two lists of texts are one. -/
theorem sameF_any (v v' : Value) (l r : List Fld) (w : World) (h : RowF w v l) (h' : RowF w v' r) :
    Calls Tryd.prog 15 #[v, v'] w fun e w' => e = .returned (.bool (decide (l = r))) ∧ Below w.heap.size w w' := by
  obtain ⟨a, cap, rfl, hl, hn, hc⟩ := h
  obtain ⟨a', cap', rfl, hl', hn', hc'⟩ := h'
  by_cases hlr : l.length = r.length
  · rcases hc with rfl | ⟨b, off, rfl, hb, hc⟩
    · have hr : r = [] := by
        apply List.eq_nil_of_length_eq_zero
        rw [← hlr]; rfl
      subst hr
      exact sameF_nil a a' cap cap' w
    · rcases hc' with rfl | ⟨b', off', rfl, hb', hc'⟩
      · have hr : l = [] := by
          apply List.eq_nil_of_length_eq_zero
          rw [hlr]; rfl
        subst hr
        exact sameF_nil _ a' cap cap' w
      · exact sameF_some b off cap b' off' cap' l r w hlr (by omega) hb hb' hc hc'
  · have : decide (l = r) = false := by
      rw [decide_eq_false_iff_not]
      intro h
      exact hlr (by rw [h])
    rw [this]
    exact sameF_len a a' _ _ cap cap' w hlr

theorem rowF_lit (w : World) (l : List Fld) (cs : Array Value) (hcs : cs.toList = flatF l) (hl : l.length ≤ 4194304) (hf : ∀ f ∈ l, Fits f) : RowF (w.alloc (.cells cs 45)) (.slice (some ⟨w.heap.size, 0, none⟩) l.length l.length) l := by
  refine ⟨_, _, rfl, hl, hf, .inr ⟨w.heap.size, 0, rfl, by simp, fun j u hj => ?_⟩⟩
  rw [Nat.zero_add, World.cell?_alloc_at _ _ _ _ (by simp), ← Array.getElem?_toList, hcs]
  exact hj
end Go.Proofs.YtedpimhhbajljaaDoor

/-
  What the parts of a mail have of it: levels that rise by one at most, and bodies that are pieces of it: plain mathematics.
-/
set_option linter.unusedVariables false
namespace Go.Proofs.YtedpimhhbajljaaDoor
open Go.RowKit Go.Proofs.Hed

/-! ## Levels -/
/-- How a part may follow another one. -/
def PtNext (a b : PT) : Prop := b.lv ≤ a.lv ∨ (b.lv = a.lv + 1 ∧ a.bo = ⟨#[]⟩)
/-- Levels go down on a stack. -/
def SkDown (st : List SK) : Prop := st.Pairwise (fun a b => b.1 ≤ a.1)
theorem SkDown.next {p : SK} {st : List SK} (h : SkDown (p :: st)) : SkDown (kidsO p ++ st) := by
  obtain ⟨h1, h2⟩ := List.pairwise_cons.1 h
  refine List.pairwise_append.2 ⟨?_, h2, fun a ha b hb => ?_⟩
  · refine List.pairwise_of_forall_mem_list ?_
    intro a ha b hb
    rw [(kidsO_ok p a ha).1, (kidsO_ok p b hb).1]
    exact Int.le_refl _
  · have := (kidsO_ok p a ha).1
    have := h1 b hb
    omega
theorem ptOf_none {p : SK} (h : kidsO p ≠ []) : (ptOf p).bo = ⟨#[]⟩ := by
  unfold ptOf
  simp only
  rw [if_neg]
  intro hz
  apply h
  unfold kidsO
  rw [List.eq_nil_of_length_eq_zero hz]
  rfl
/-- Each part follows the one ahead of it as it may; the first is the stack's first. -/
theorem ptsF_chain : ∀ (f : Nat) (st : List SK), SkDown st → ∀ (i : Nat) (a b : PT), (ptsF f st)[i]? = some a → (ptsF f st)[i + 1]? = some b → PtNext a b
  | 0, _, _, i, a, b, h, _ => by simp [ptsF] at h
  | f + 1, [], _, i, a, b, h, _ => by simp [ptsF] at h
  | f + 1, p :: st, hd, i, a, b, ha, hb => by
    have hn := hd.next
    cases i with
    | zero =>
      simp only [ptsF, List.getElem?_cons_zero, Option.some.injEq] at ha
      subst ha
      simp only [ptsF, List.getElem?_cons_succ] at hb
      cases f with
      | zero => simp [ptsF] at hb
      | succ f =>
        cases hk : kidsO p with
        | nil =>
          rw [hk, List.nil_append] at hb
          cases st with
          | nil => simp [ptsF] at hb
          | cons q st =>
            simp only [ptsF, List.getElem?_cons_zero, Option.some.injEq] at hb
            subst hb
            exact Or.inl ((List.pairwise_cons.1 hd).1 q (by simp))
        | cons q ks =>
          rw [hk] at hb
          simp only [List.cons_append, ptsF, List.getElem?_cons_zero, Option.some.injEq] at hb
          subst hb
          exact Or.inr ⟨(kidsO_ok p q (by rw [hk]; simp)).1, ptOf_none (by rw [hk]; simp)⟩
    | succ i =>
      simp only [ptsF, List.getElem?_cons_succ] at ha hb
      exact ptsF_chain f _ hn i a b ha hb
theorem ptsL_chain (s : ByteArray) (i : Nat) (h : i + 1 < (ptsL s).length) : PtNext ((ptsL s)[i]'(by omega)) ((ptsL s)[i + 1]) :=
  ptsF_chain 256 _ (List.pairwise_singleton _ _) i _ _ (List.getElem?_eq_getElem _) (List.getElem?_eq_getElem h)
/-- Of what lies on a stack of levels of one and more all parts are so. -/
theorem ptsF_one : ∀ (f : Nat) (st : List SK), (∀ q ∈ st, 1 ≤ q.1) → ∀ p ∈ ptsF f st, 1 ≤ p.lv
  | 0, _, _, p, hp => by simp [ptsF] at hp
  | f + 1, [], _, p, hp => by simp [ptsF] at hp
  | f + 1, q :: st, h, p, hp => by
    simp only [ptsF, List.mem_cons] at hp
    rcases hp with rfl | hp
    · exact h q (by simp)
    · refine ptsF_one f _ (fun r hr => ?_) p hp
      rcases List.mem_append.1 hr with hr | hr
      · have := (kidsO_ok q r hr).1
        have := h q (by simp)
        omega
      · exact h r (by simp [hr])
theorem ptsL_cons (s : ByteArray) : ptsL s = ptOf (0, s) :: ptsF 255 (kidsO (0, s)) := by
  show ptOf (0, s) :: ptsF 255 (kidsO (0, s) ++ []) = _
  rw [List.append_nil]
theorem ptsL_zero (s : ByteArray) (h : 0 < (ptsL s).length) : ((ptsL s)[0]'h).lv = 0 := by
  simp only [ptsL_cons, List.getElem_cons_zero]
  rfl
theorem ptsL_pos (s : ByteArray) : 1 ≤ (ptsL s).length := by rw [ptsL_cons]; simp
theorem ptsL_more (s : ByteArray) (i : Nat) (h : i + 1 < (ptsL s).length) : 1 ≤ ((ptsL s)[i + 1]).lv ∧ ((ptsL s)[i + 1]).lv ≤ 8 := by
  constructor
  · have h1 := ptsF_one 255 (kidsO (0, s)) (fun q hq => by have := (kidsO_ok (0, s) q hq).1; simp only at this; omega)
    simp only [ptsL_cons, List.getElem_cons_succ]
    exact h1 _ (List.getElem_mem _)
  · exact (ptsF_levels 256 _ s.size (SkOk.one (Nat.le_refl _)) _ (List.getElem_mem h)).2

/-! ## Bodies -/
/-- The pieces of a body stand one behind the other. -/
def szS (l : List (Nat × Nat)) : Nat := (l.map (fun p => p.2 - p.1)).sum
theorem szS_app (l : List (Nat × Nat)) (p : Nat × Nat) : szS (l ++ [p]) = szS l + (p.2 - p.1) := by
  unfold szS
  simp
theorem btF_sum (body mark : List UInt8) : ∀ (f : Nat) (beg : Option Nat) (a en : Nat) (acc : List (Nat × Nat)), a ≤ body.length → en ≤ a →
    (match beg with | none => szS acc ≤ a | some b => b ≤ a ∧ szS acc ≤ b) → szS (btF body mark f beg a en acc) ≤ body.length
  | 0, beg, a, en, acc, ha, he, h => by
    unfold btF
    cases beg with
    | none => simp only at h; omega
    | some b => simp only at h; omega
  | f + 1, beg, a, en, acc, ha, he, h => by
    unfold btF
    split
    · rename_i hc
      obtain ⟨l1, l2, l3⟩ := line_lens (body.drop a) (by rw [List.length_drop]; omega)
      rw [List.length_drop] at l2
      cases beg with
      | none =>
        simp only at h ⊢
        refine btF_sum body mark f _ _ _ _ (by omega) (by omega) ?_
        split
        · rename_i hb
          split at hb <;> cases hb
          omega
        · rename_i b hb
          split at hb <;> cases hb
          omega
      | some b =>
        simp only at h ⊢
        split
        · rw [szS_app]
          simp only
          omega
        · split
          · refine btF_sum body mark f _ _ _ _ (by omega) (by omega) ?_
            rw [szS_app]
            simp only
            omega
          · exact btF_sum body mark f _ _ _ _ (by omega) (by omega) (by simp only; omega)
    · cases beg with
      | none => simp only at h ⊢; omega
      | some b =>
        simp only at h ⊢
        rw [szS_app]
        simp only
        omega
theorem betw_sum (body mark : List UInt8) : szS (betw body mark) ≤ body.length := btF_sum body mark _ none 0 0 [] (by omega) (by omega) (by simp [szS])
theorem kidsP_sum (lv : Int) (ty body bd : List UInt8) : szS (kidsP lv ty body bd) ≤ body.length := by
  unfold kidsP
  split
  · simp [szS]
  · split
    · simp [szS]
    · split
      · exact betw_sum _ _
      · simp [szS]
def skS (st : List SK) : Nat := (st.map (fun q => q.2.size)).sum
def ptS (l : List PT) : Nat := (l.map (fun p => p.bo.size)).sum
theorem ext_sizeS (y : ByteArray) (l : List (Nat × Nat)) : (l.map (fun q => (y.extract q.1 q.2).size)).sum ≤ szS l := by
  unfold szS
  induction l with
  | nil => simp
  | cons p l ih =>
    simp only [List.map_cons, List.sum_cons]
    have : (y.extract p.1 p.2).size ≤ p.2 - p.1 := by rw [ByteArray.size_extract]; omega
    omega
theorem kidsO_sum (p : SK) : skS (kidsO p) + (ptOf p).bo.size ≤ p.2.size := by
  have hy := rdY_size p.2
  have hz := sizeL (rdY p.2)
  have h1 := kidsP_sum p.1 (rdT p.2.data.toList).data.toList (rdY p.2).data.toList (rdB p.2.data.toList).data.toList
  have h2 := ext_sizeS (rdY p.2) (rdK p.1 p.2)
  have h3 : skS (kidsO p) = ((rdK p.1 p.2).map (fun q => ((rdY p.2).extract q.1 q.2).size)).sum := by
    unfold skS kidsO
    rw [List.map_map]
    rfl
  rw [h3]
  unfold ptOf
  simp only
  split
  · rename_i hk
    rw [List.eq_nil_of_length_eq_zero hk]
    simp only [List.map_nil, List.sum_nil]
    omega
  · have : (⟨#[]⟩ : ByteArray).size = 0 := rfl
    unfold rdK at h2 ⊢
    omega
theorem ptsF_sum : ∀ (f : Nat) (st : List SK), ptS (ptsF f st) ≤ skS st
  | 0, _ => by simp [ptsF, ptS]
  | f + 1, [] => by simp [ptsF, ptS]
  | f + 1, p :: st => by
    have h1 := ptsF_sum f (kidsO p ++ st)
    have h2 := kidsO_sum p
    have h3 : skS (kidsO p ++ st) = skS (kidsO p) + skS st := by unfold skS; rw [List.map_append, List.sum_append]
    simp only [ptsF, ptS, skS, List.map_cons, List.sum_cons] at h1 h2 h3 ⊢
    omega
theorem ptsL_sum (s : ByteArray) : ptS (ptsL s) ≤ s.size := by
  have := ptsF_sum 256 [(0, s)]
  have h2 : skS [(0, s)] = s.size := by simp [skS]
  rw [h2] at this
  exact this

/-- A text is a piece of another one. -/
def PieceOf (s t : ByteArray) : Prop := ∃ i, i + t.size ≤ s.size ∧ s.extract i (i + t.size) = t
theorem PieceOf.ext (s : ByteArray) (i j : Nat) : PieceOf s (s.extract i j) := by
  by_cases h : i ≤ min j s.size
  · refine ⟨i, by rw [ByteArray.size_extract]; omega, ?_⟩
    rw [ByteArray.size_extract]
    apply ext_list
    simp only [ByteArray.data_extract, Array.toList_extract, List.extract_eq_take_drop]
    have hz := sizeL s
    by_cases hj : j ≤ s.size
    · rw [show i + (min j s.size - i) - i = j - i by omega]
    · rw [show i + (min j s.size - i) - i = s.size - i by omega, List.take_of_length_le (by rw [List.length_drop]; omega), List.take_of_length_le (by rw [List.length_drop]; omega)]
  · refine ⟨0, by rw [ByteArray.size_extract]; omega, ?_⟩
    have hz : (s.extract i j).size = 0 := by rw [ByteArray.size_extract]; omega
    rw [hz]
    apply ext_list
    have h1 := sizeL (s.extract i j)
    have h2 := sizeL (s.extract 0 0)
    rw [hz] at h1
    rw [ByteArray.size_extract] at h2
    have h3 : (s.extract 0 (0 + 0)).data.toList.length = 0 := by rw [h2]; omega
    rw [List.eq_nil_of_length_eq_zero h1, List.eq_nil_of_length_eq_zero h3]
theorem ext_ext (s : ByteArray) (i j a b : Nat) : ∃ i' j', (s.extract i j).extract a b = s.extract i' j' := by
  refine ⟨i + a, min (i + b) j, ?_⟩
  rw [ByteArray.extract_extract]
theorem PieceOf.sub {s t : ByteArray} (h : PieceOf s t) (i j : Nat) : PieceOf s (t.extract i j) := by
  obtain ⟨k, _, rfl'⟩ := h
  rw [← rfl']
  obtain ⟨i', j', h'⟩ := ext_ext s k (k + t.size) i j
  rw [h']
  exact PieceOf.ext s i' j'
theorem PieceOf.refl (s : ByteArray) : PieceOf s s := ⟨0, by omega, by rw [Nat.zero_add]; exact all_of s⟩
theorem PieceOf.nil (s : ByteArray) : PieceOf s ⟨#[]⟩ := by
  refine ⟨0, by show 0 + 0 ≤ _; omega, ?_⟩
  apply ext_list
  have h2 := sizeL (s.extract 0 (0 + (⟨#[]⟩ : ByteArray).size))
  rw [ByteArray.size_extract] at h2
  have : (⟨#[]⟩ : ByteArray).size = 0 := rfl
  rw [List.eq_nil_of_length_eq_zero (by omega : (s.extract 0 (0 + (⟨#[]⟩ : ByteArray).size)).data.toList.length = 0)]
theorem ptsF_piece (s : ByteArray) : ∀ (f : Nat) (st : List SK), (∀ q ∈ st, PieceOf s q.2) → ∀ p ∈ ptsF f st, PieceOf s p.bo
  | 0, _, _, p, hp => by simp [ptsF] at hp
  | f + 1, [], _, p, hp => by simp [ptsF] at hp
  | f + 1, q :: st, h, p, hp => by
    have hq := h q (by simp)
    simp only [ptsF, List.mem_cons] at hp
    rcases hp with rfl | hp
    · unfold ptOf
      simp only
      split
      · exact hq.sub _ _
      · exact PieceOf.nil s
    · refine ptsF_piece s f _ (fun r hr => ?_) p hp
      rcases List.mem_append.1 hr with hr | hr
      · obtain ⟨k, _, rfl⟩ := List.mem_map.1 hr
        exact (hq.sub _ _).sub _ _
      · exact h r (by simp [hr])
theorem ptsL_piece (s : ByteArray) : ∀ p ∈ ptsL s, PieceOf s p.bo := ptsF_piece s 256 _ (fun q hq => by rw [List.mem_singleton] at hq; subst hq; exact PieceOf.refl s)

/-! ## A mail without a content type -/
theorem findR_none (nm nm' : ByteArray) (h : smL nm.data.toList = smL nm'.data.toList) : ∀ l : List Fld, findR nm l = findR nm' l
  | [] => rfl
  | f :: r => by
    unfold findR called
    rw [h, findR_none nm nm' h r]
theorem findR_empty (nm : ByteArray) : ∀ l : List Fld, (findR nm l).2 ≠ 0 → findR nm l = ({ data := #[] }, 3)
  | [], _ => rfl
  | f :: r, h => by
    unfold findR at h ⊢
    split
    · rename_i hc; rw [if_pos hc] at h; exact absurd rfl h
    · rename_i hc; rw [if_neg hc] at h; exact findR_empty nm r h
theorem plain_one (s : ByteArray) (h : (findR ⟨#[99, 111, 110, 116, 101, 110, 116, 45, 116, 121, 112, 101]⟩ (fldsL s.data.toList)).2 ≠ 0) :
    ∃ co, ptsL s = [⟨0, ⟨#[116, 101, 120, 116, 47, 112, 108, 97, 105, 110]⟩, ⟨#[117, 115, 45, 97, 115, 99, 105, 105]⟩, co, rdY s⟩] := by
  have h1 : findR { data := #[67, 111, 110, 116, 101, 110, 116, 45, 84, 121, 112, 101] } (fldsL s.data.toList) = ({ data := #[] }, 3) := by
    rw [findR_none _ ⟨#[99, 111, 110, 116, 101, 110, 116, 45, 116, 121, 112, 101]⟩ (by decide)]
    exact findR_empty _ _ h
  have hV : rdV s.data.toList = { data := #[] } := by unfold rdV; rw [h1]
  have hT : rdT s.data.toList = ⟨#[116, 101, 120, 116, 47, 112, 108, 97, 105, 110]⟩ := by unfold rdT; rw [hV]; decide +kernel
  have hP : rdP s.data.toList = [] := by unfold rdP; rw [hV]; decide +kernel
  have hC : rdC s.data.toList = ⟨#[117, 115, 45, 97, 115, 99, 105, 105]⟩ := by unfold rdC; rw [hP]; decide +kernel
  have hK : rdK 0 s = [] := by
    unfold rdK kidsP
    rw [hT, if_neg (by decide), if_neg (by decide), if_neg (by rintro ⟨h, _⟩; revert h; decide)]
  refine ⟨rdD s.data.toList, ?_⟩
  rw [ptsL_cons]
  unfold kidsO
  simp only
  rw [hK, List.map_nil, ptsF_nil]
  unfold ptOf
  simp only
  rw [hK, hT, hC]
  rfl
end Go.Proofs.YtedpimhhbajljaaDoor

/-
  The parts of a mail that is put together of texts with a boundary: plain mathematics.
-/
set_option linter.unusedVariables false
namespace Go.Proofs.YtedpimhhbajljaaDoor
open Go.RowKit Go.Proofs.Hed

def mdC : List UInt8 := [67, 111, 110, 116, 101, 110, 116, 45, 84, 121, 112, 101]
def mdT : List UInt8 := [109, 117, 108, 116, 105, 112, 97, 114, 116, 47, 120]
/-- "; boundary=" -/
def mdB : List UInt8 := [59, 32, 98, 111, 117, 110, 100, 97, 114, 121, 61]
/-- A boundary of small letters. -/
def BdOk (b : List UInt8) : Prop := b ≠ [] ∧ ∀ c ∈ b, 97 ≤ c.toNat ∧ c.toNat ≤ 122
/-- A text that may be a part. -/
def TxOk (t : List UInt8) : Prop := (∀ i, t.drop i = [] ∨ ¬ [45, 45] <+: t.drop i) ∧ t.getLast? ≠ some 13
def mdBody (b : List UInt8) (l : List (List UInt8)) : List UInt8 := l.flatMap (fun t => 45 :: 45 :: (b ++ 10 :: 10 :: (t ++ [10]))) ++ (45 :: 45 :: (b ++ [45, 45, 10]))
def mdText (b : List UInt8) (l : List (List UInt8)) : List UInt8 := textL [10] [(mdC, mdT ++ mdB ++ b)] ++ mdBody b l

theorem bd_byte {b : List UInt8} (h : BdOk b) {c : UInt8} (hc : c ∈ b) : c ≠ 10 ∧ c ≠ 13 ∧ c ≠ 32 ∧ c ≠ 9 ∧ c ≠ 34 ∧ c ≠ 45 ∧ tokB c = true ∧ blM c = false ∧ isB c = false := by
  have := h.2 c hc
  have key : ∀ n : Fin 256, 97 ≤ (UInt8.ofNat n.val).toNat ∧ (UInt8.ofNat n.val).toNat ≤ 122 → (UInt8.ofNat n.val) ≠ 10 ∧ (UInt8.ofNat n.val) ≠ 13 ∧ (UInt8.ofNat n.val) ≠ 32 ∧ (UInt8.ofNat n.val) ≠ 9 ∧ (UInt8.ofNat n.val) ≠ 34 ∧ (UInt8.ofNat n.val) ≠ 45 ∧ tokB (UInt8.ofNat n.val) = true ∧ blM (UInt8.ofNat n.val) = false ∧ isB (UInt8.ofNat n.val) = false := by decide +kernel
  have h2 := key ⟨c.toNat, c.toNat_lt⟩
  simpa using h2 (by simpa using this)
theorem bd_cons {b : List UInt8} (h : BdOk b) : ∃ c r, b = c :: r := by
  cases b with
  | nil => exact absurd rfl h.1
  | cons c r => exact ⟨c, r, rfl⟩
theorem md_vl {b : List UInt8} (h : BdOk b) : isVl (mdT ++ mdB ++ b) = true := by
  unfold isVl
  simp only [Bool.and_eq_true]
  refine ⟨⟨?_, rfl⟩, ?_⟩
  · rw [List.all_eq_true]
    intro c hc
    rcases List.mem_append.1 hc with hc | hc
    · have key : ∀ c ∈ mdT ++ mdB, (c != 10 && c != 13) = true := by decide
      exact key c hc
    · have := bd_byte h hc
      simp [this.1, this.2.1]
  · rw [List.getLast?_append]
    cases hb : b.getLast? with
    | none => exact absurd (List.getLast?_eq_none_iff.1 hb) h.1
    | some c =>
      have := (bd_byte h (List.mem_of_getLast? hb)).2.2.2.2.2.2.2.2
      simp [this]
theorem md_parse {b : List UInt8} (h : BdOk b) (r : List UInt8) : parseL (textL [10] [(mdC, mdT ++ mdB ++ b)] ++ r) = ([(mdC, mdT ++ mdB ++ b)], (textL [10] [(mdC, mdT ++ mdB ++ b)]).length) :=
  parse_text (Or.inl rfl) _ (by simp only [List.all_cons, List.all_nil, Bool.and_true, okF, md_vl h]; decide) r
theorem cut_md (r : List UInt8) : cutAt 59 (mdT ++ mdB ++ r) = some (mdT, mdB.tail ++ r) := rfl
theorem tok_all {b : List UInt8} (h : BdOk b) : tokN b = b.length := tokN_all b (fun j hj => (bd_byte h (List.getElem_mem hj)).2.2.2.2.2.2.1)
theorem val_md {b : List UInt8} (h : BdOk b) : valM b = some (b, []) := by
  obtain ⟨c, r, rfl⟩ := bd_cons h
  unfold valM
  rw [if_neg, tok_all h, if_neg, List.take_length, List.drop_length]
  · simp
  · intro e
    simp only [List.head?_cons, Option.some.injEq] at e
    exact (bd_byte h (List.mem_cons_self ..)).2.2.2.2.1 e
theorem par_md {b : List UInt8} (h : BdOk b) : parM (mdB.tail ++ b) = some (([98, 111, 117, 110, 100, 97, 114, 121], b), []) := by
  have h1 : (mdB.tail ++ b).dropWhile blM = [98, 111, 117, 110, 100, 97, 114, 121, 61] ++ b := rfl
  have h2 : tokN ([98, 111, 117, 110, 100, 97, 114, 121, 61] ++ b) = 8 := rfl
  have h3 : (([98, 111, 117, 110, 100, 97, 114, 121, 61] ++ b).drop 8).dropWhile blM = 61 :: b := rfl
  have h4 : b.dropWhile blM = b := by
    obtain ⟨c, r, rfl⟩ := bd_cons h
    rw [List.dropWhile_cons, (bd_byte h (List.mem_cons_self ..)).2.2.2.2.2.2.2.1]
    rfl
  unfold parM
  rw [h1, h2, h3, List.tail_cons, h4, val_md h]
  rfl
theorem pars_md {b : List UInt8} (h : BdOk b) : parsL (mdB ++ b) = [([98, 111, 117, 110, 100, 97, 114, 121], b)] := by
  unfold parsL
  rw [show mdB ++ b = 59 :: (mdB.tail ++ b) from rfl, List.length_cons]
  unfold parsF
  rw [List.head?_cons, if_pos rfl, List.tail_cons, par_md h]
  simp only
  cases (mdB.tail ++ b).length <;> rfl
theorem typ_md {b : List UInt8} (h : BdOk b) : typK (mdT ++ mdB ++ b) = mdT ∧ typF (mdT ++ mdB ++ b) = [([98, 111, 117, 110, 100, 97, 114, 121], b)] := by
  have hk : kndL (mdT ++ mdB ++ b) = mdT := by unfold kndL; rw [cut_md]
  have ht : isTypL (trimL mdT) = true := by decide +kernel
  have hs : smL (trimL mdT) = mdT := by decide +kernel
  have hb : behL (mdT ++ mdB ++ b) = mdB ++ b := by unfold behL; rw [hk]; rfl
  unfold typK typF
  rw [hk, if_pos ht, if_pos ht, hs, hb, pars_md h]
  exact ⟨rfl, rfl⟩

/-! ## The lines of a body -/
theorem line_app {a r : List UInt8} (h10 : ∀ c ∈ a, c ≠ 10) (h13 : a.getLast? ≠ some 13) : lineOf (a ++ 10 :: r) = a ∧ lineN (a ++ 10 :: r) = a.length + 1 := by
  unfold lineOf lineN
  rw [lfAt_app a r h10]
  simp only
  rw [List.take_left]
  unfold noCr
  rw [if_neg h13]
  simp
theorem bd_last {b : List UInt8} (h : BdOk b) : (45 :: 45 :: b).getLast? ≠ some 13 := by
  intro e
  have := List.mem_of_getLast? e
  rcases List.mem_cons.1 this with hc | hc
  · exact absurd hc (by decide)
  · rcases List.mem_cons.1 hc with hc | hc
    · exact absurd hc (by decide)
    · exact (bd_byte h hc).2.1 rfl
theorem mark_self {b : List UInt8} (h : BdOk b) : mkB (45 :: 45 :: b) (45 :: 45 :: b) = true ∧ mkC (45 :: 45 :: b) (45 :: 45 :: b) = false := by
  have h1 : mkB (45 :: 45 :: b) (45 :: 45 :: b) = true := by
    unfold mkB Lib.hasPrefix
    rw [List.drop_length, List.isPrefixOf_iff_prefix.2 (List.prefix_refl _)]
    rfl
  refine ⟨h1, ?_⟩
  cases hc : mkC (45 :: 45 :: b) (45 :: 45 :: b) with
  | false => rfl
  | true => rw [mk_one hc] at h1; cases h1
theorem mark_end {b : List UInt8} (h : BdOk b) : mkC (45 :: 45 :: (b ++ [45, 45])) (45 :: 45 :: b) = true := by
  unfold mkC Lib.hasPrefix
  rw [show (45 :: 45 :: (b ++ [45, 45]) : List UInt8) = (45 :: 45 :: b) ++ [45, 45] by simp, List.drop_left, List.isPrefixOf_iff_prefix.2 (List.prefix_append _ _)]
  decide
theorem mark_no {b line : List UInt8} (h : ¬ [45, 45] <+: line) : mkB line (45 :: 45 :: b) = false ∧ mkC line (45 :: 45 :: b) = false := by
  have hp : Lib.hasPrefix line (45 :: 45 :: b) = false := by
    cases hp : Lib.hasPrefix line (45 :: 45 :: b) with
    | false => rfl
    | true =>
      unfold Lib.hasPrefix at hp
      exact absurd ((show [45, 45] <+: 45 :: 45 :: b from ⟨b, rfl⟩).trans (List.isPrefixOf_iff_prefix.1 hp)) h
  unfold mkB mkC
  rw [hp]
  exact ⟨rfl, rfl⟩
theorem noCr_pre (l : List UInt8) : noCr l <+: l := by
  unfold noCr
  split
  · exact List.dropLast_prefix l
  · exact List.prefix_refl l
theorem lfAt_some {s : List UInt8} {i : Nat} (h : lfAt s = some i) : ∀ r, lfAt (s ++ r) = some i := by
  induction s generalizing i with
  | nil => simp [lfAt] at h
  | cons c s ih =>
    intro r
    simp only [lfAt, List.cons_append] at h ⊢
    split at h
    · rename_i hc; rw [if_pos hc]; exact h
    · rename_i hc
      rw [if_neg hc]
      simp only [Option.map_eq_some_iff] at h ⊢
      obtain ⟨k, hk, rfl⟩ := h
      exact ⟨k, ih hk r, rfl⟩
theorem lfAt_none {s : List UInt8} (h : lfAt s = none) : ∀ c ∈ s, c ≠ 10 := by
  induction s with
  | nil => simp
  | cons c s ih =>
    simp only [lfAt] at h
    split at h
    · cases h
    · rename_i hc
      simp only [Option.map_eq_none_iff] at h
      intro d hd
      rcases List.mem_cons.1 hd with rfl | hd
      · exact hc
      · exact ih h d hd
/-- A text within a body is gone through to its end, and its end is where the last line ends. -/
theorem bt_text (body b : List UInt8) (bg : Nat) (acc : List (Nat × Nat)) (hacc : acc.length < 256) : ∀ (n : Nat) (u rest : List UInt8) (f a en : Nat), u.length ≤ n →
    (∀ i, u.drop i = [] ∨ ¬ [45, 45] <+: u.drop i) → u.getLast? ≠ some 13 → body.drop a = u ++ 10 :: rest → a ≤ body.length → body.length - a < f →
    ∃ f', body.length - (a + u.length + 1) < f' ∧ btF body (45 :: 45 :: b) f (some bg) a en acc = btF body (45 :: 45 :: b) f' (some bg) (a + u.length + 1) (a + u.length) acc := by
  intro n
  induction n with
  | zero =>
    intro u rest f a en hu h1 h2 hd ha hf
    obtain rfl := List.eq_nil_of_length_eq_zero (by omega : u.length = 0)
    have hal : a < body.length := by
      have := congrArg List.length hd
      simp only [List.length_drop, List.nil_append, List.length_cons] at this
      omega
    obtain ⟨f, rfl⟩ : ∃ g, f = g + 1 := ⟨f - 1, by omega⟩
    have hl := line_app (a := []) (r := rest) (by simp) (by simp)
    have hm := mark_no (b := b) (line := []) (by simp)
    refine ⟨f, by simp only [List.length_nil]; omega, ?_⟩
    conv => lhs; unfold btF
    rw [if_pos ⟨hal, hacc⟩, hd]
    simp only
    rw [hl.1, hl.2, hm.1, hm.2]
    rfl
  | succ n ih =>
    intro u rest f a en hu h1 h2 hd ha hf
    have hal : a < body.length := by
      have := congrArg List.length hd
      simp only [List.length_drop, List.length_append, List.length_cons] at this
      omega
    obtain ⟨f, rfl⟩ : ∃ g, f = g + 1 := ⟨f - 1, by omega⟩
    cases hlf : lfAt u with
    | none =>
      have hl := line_app (a := u) (r := rest) (lfAt_none hlf) h2
      have hm : mkB u (45 :: 45 :: b) = false ∧ mkC u (45 :: 45 :: b) = false := by
        rcases h1 0 with he | he
        · rw [List.drop_zero] at he; subst he; exact mark_no (by simp)
        · rw [List.drop_zero] at he; exact mark_no he
      refine ⟨f, by omega, ?_⟩
      conv => lhs; unfold btF
      rw [if_pos ⟨hal, hacc⟩, hd]
      simp only
      rw [hl.1, hl.2, hm.1, hm.2]
      rfl
    | some i =>
      have hi := lfAt_lt hlf
      have hlo : lineOf (u ++ 10 :: rest) = noCr (u.take i) := by
        unfold lineOf
        rw [lfAt_some hlf]
        simp only
        rw [List.take_append_of_le_length (by omega)]
      have hln : lineN (u ++ 10 :: rest) = i + 1 := by unfold lineN; rw [lfAt_some hlf]
      have hm : mkB (noCr (u.take i)) (45 :: 45 :: b) = false ∧ mkC (noCr (u.take i)) (45 :: 45 :: b) = false := by
        refine mark_no (fun hp => ?_)
        have hp2 := (hp.trans (noCr_pre _)).trans (List.take_prefix i u)
        rcases h1 0 with he | he
        · rw [List.drop_zero] at he; subst he; simp at hi
        · rw [List.drop_zero] at he; exact he hp2
      have hd2 : body.drop (a + (i + 1)) = u.drop (i + 1) ++ 10 :: rest := by
        rw [← List.drop_drop, hd, List.drop_append_of_le_length (by omega)]
      obtain ⟨f', hf', he⟩ := ih (u.drop (i + 1)) rest f (a + (i + 1)) (a + (noCr (u.take i)).length) (by rw [List.length_drop]; omega)
        (fun j => by rw [List.drop_drop]; exact h1 _)
        (by
          intro e
          apply h2
          rw [List.getLast?_drop] at e
          split at e
          · cases e
          · exact e) hd2 (by have := congrArg List.length hd; simp only [List.length_drop, List.length_append, List.length_cons] at this; omega) (by omega)
      rw [List.length_drop] at hf' he
      refine ⟨f', by omega, ?_⟩
      conv => lhs; unfold btF
      rw [if_pos ⟨hal, hacc⟩, hd]
      simp only
      rw [hlo, hln, hm.1, hm.2]
      simp only [Bool.false_eq_true, if_false]
      rw [he]
      rw [show a + (i + 1) + (u.length - (i + 1)) + 1 = a + u.length + 1 by omega, show a + (i + 1) + (u.length - (i + 1)) = a + u.length by omega]
def pcA (body : List UInt8) (q : Nat × Nat) : List UInt8 := (body.drop q.1).take (q.2 - q.1)
theorem tx_lf {t : List UInt8} (h : TxOk t) : (∀ i, (10 :: t : List UInt8).drop i = [] ∨ ¬ [45, 45] <+: (10 :: t : List UInt8).drop i) ∧ (10 :: t : List UInt8).getLast? ≠ some 13 := by
  constructor
  · intro i
    cases i with
    | zero => right; rw [List.drop_zero]; intro hp; obtain ⟨r, hr⟩ := hp; simp at hr
    | succ i => rw [List.drop_succ_cons]; exact h.1 i
  · intro e
    rw [List.getLast?_cons] at e
    cases ht : t.getLast? with
    | none => rw [ht] at e; simp at e
    | some c => rw [ht] at e; simp at e; subst e; exact h.2 ht
/-- From the line behind a text on: all texts that follow. -/
theorem bt_all (body b : List UInt8) (hb : BdOk b) : ∀ (l : List (List UInt8)) (u rest : List UInt8) (bg f a : Nat) (acc : List (Nat × Nat)), (∀ t ∈ l, TxOk t) → acc.length + l.length < 255 →
    body.drop bg = u ++ 10 :: mdBody b l ++ rest → a = bg + u.length + 1 → body.length - a < f →
    (btF body (45 :: 45 :: b) f (some bg) a (bg + u.length) acc).map (pcA body) = acc.map (pcA body) ++ u :: l.map (10 :: ·)
  | [], u, rest, bg, f, a, acc, hl, hn, hd, ha, hf => by
    have hda : body.drop a = (45 :: 45 :: (b ++ [45, 45])) ++ 10 :: rest := by
      rw [ha, show bg + u.length + 1 = bg + (u.length + 1) by omega, ← List.drop_drop, hd]
      rw [show u ++ 10 :: mdBody b [] ++ rest = (u ++ [10]) ++ (mdBody b [] ++ rest) by simp, show u.length + 1 = (u ++ [10]).length by simp, List.drop_left]
      simp [mdBody]
    have hal : a < body.length := by
      have := congrArg List.length hda
      simp only [List.length_drop, List.length_append, List.length_cons] at this
      omega
    obtain ⟨f, rfl⟩ : ∃ g, f = g + 1 := ⟨f - 1, by omega⟩
    have h10 : ∀ c ∈ (45 :: 45 :: (b ++ [45, 45]) : List UInt8), c ≠ 10 := by
      intro c hc
      simp only [List.mem_cons, List.mem_append, List.not_mem_nil, or_false] at hc
      rcases hc with rfl | rfl | hc | rfl | rfl
      · decide
      · decide
      · exact (bd_byte hb hc).1
      · decide
      · decide
    have hlast : (45 :: 45 :: (b ++ [45, 45]) : List UInt8).getLast? ≠ some 13 := by
      rw [show (45 :: 45 :: (b ++ [45, 45]) : List UInt8) = (45 :: 45 :: (b ++ [45])) ++ [45] by simp, List.getLast?_append]
      simp
    have hlo := line_app (r := rest) h10 hlast
    unfold btF
    rw [if_pos ⟨hal, by simp only [List.length_nil] at hn; omega⟩, hda]
    simp only
    rw [hlo.1, mark_end hb, if_pos rfl, Nat.max_eq_right (by omega), List.map_append]
    simp only [List.map_cons, List.map_nil]
    congr 1
    unfold pcA
    simp only
    rw [hd, show bg + u.length - bg = u.length by omega, List.append_assoc, List.take_left]
  | t :: l, u, rest, bg, f, a, acc, hl, hn, hd, ha, hf => by
    have hsp : mdBody b (t :: l) = 45 :: 45 :: (b ++ 10 :: 10 :: (t ++ [10])) ++ mdBody b l := by simp [mdBody]
    have hda : body.drop a = (45 :: 45 :: b) ++ 10 :: (10 :: t ++ 10 :: (mdBody b l ++ rest)) := by
      rw [ha, show bg + u.length + 1 = bg + (u.length + 1) by omega, ← List.drop_drop, hd]
      rw [show u ++ 10 :: mdBody b (t :: l) ++ rest = (u ++ [10]) ++ (mdBody b (t :: l) ++ rest) by simp, show u.length + 1 = (u ++ [10]).length by simp, List.drop_left, hsp]
      simp
    have hal : a < body.length := by
      have := congrArg List.length hda
      simp only [List.length_drop, List.length_append, List.length_cons] at this
      omega
    obtain ⟨f, rfl⟩ : ∃ g, f = g + 1 := ⟨f - 1, by omega⟩
    have h10 : ∀ c ∈ (45 :: 45 :: b : List UInt8), c ≠ 10 := by
      intro c hc
      simp only [List.mem_cons] at hc
      rcases hc with rfl | rfl | hc
      · decide
      · decide
      · exact (bd_byte hb hc).1
    have hlo := line_app (r := 10 :: t ++ 10 :: (mdBody b l ++ rest)) h10 (bd_last hb)
    have hms := mark_self hb
    have hd2 : body.drop (a + ((45 :: 45 :: b : List UInt8).length + 1)) = (10 :: t) ++ 10 :: (mdBody b l ++ rest) := by
      rw [← List.drop_drop, hda]
      rw [show (45 :: 45 :: b) ++ 10 :: (10 :: t ++ 10 :: (mdBody b l ++ rest)) = ((45 :: 45 :: b) ++ [10]) ++ (10 :: t ++ 10 :: (mdBody b l ++ rest)) by simp, show (45 :: 45 :: b : List UInt8).length + 1 = ((45 :: 45 :: b) ++ [10] : List UInt8).length by simp, List.drop_left]
    have hlen := congrArg List.length hda
    simp only [List.length_drop, List.length_append, List.length_cons] at hlen
    obtain ⟨f', hf', he⟩ := bt_text body b (a + ((45 :: 45 :: b : List UInt8).length + 1)) (acc ++ [(bg, bg + u.length)]) (by rw [List.length_append]; simp only [List.length_cons, List.length_nil] at hn ⊢; omega) (10 :: t).length (10 :: t) (mdBody b l ++ rest) f (a + ((45 :: 45 :: b : List UInt8).length + 1)) (a + (45 :: 45 :: b : List UInt8).length) (Nat.le_refl _)
      (tx_lf (hl t (by simp))).1 (tx_lf (hl t (by simp))).2 hd2 (by simp only [List.length_cons] at hlen ⊢; omega) (by simp only [List.length_cons] at hlen ⊢; omega)
    unfold btF
    rw [if_pos ⟨hal, by simp only [List.length_cons] at hn; omega⟩, hda]
    simp only
    rw [hlo.1, hlo.2, hms.1, hms.2]
    simp only [Bool.false_eq_true, if_false, if_true]
    rw [Nat.max_eq_right (by omega), he, bt_all body b hb l (10 :: t) rest _ f' _ (acc ++ [(bg, bg + u.length)]) (fun x hx => hl x (by simp [hx])) (by rw [List.length_append]; simp only [List.length_cons, List.length_nil] at hn ⊢; omega) (by rw [hd2]; simp) (by omega) hf']
    rw [List.map_append]
    simp only [List.map_cons, List.map_nil, List.append_assoc, List.cons_append, List.nil_append]
    congr 2
    unfold pcA
    simp only
    rw [hd, show bg + u.length - bg = u.length by omega, List.append_assoc, List.take_left]
theorem betw_md {b : List UInt8} (hb : BdOk b) (l : List (List UInt8)) (hl : ∀ t ∈ l, TxOk t) (hn : l.length < 255) (hne : l ≠ []) : (betw (mdBody b l) (45 :: 45 :: b)).map (pcA (mdBody b l)) = l.map (10 :: ·) := by
  cases l with
  | nil => exact absurd rfl hne
  | cons t l =>
    generalize hB : mdBody b (t :: l) = body
    have hsp : body = (45 :: 45 :: b) ++ 10 :: (10 :: t ++ 10 :: mdBody b l) := by rw [← hB]; simp [mdBody]
    have hal : 0 < body.length := by rw [hsp]; simp
    have h10 : ∀ c ∈ (45 :: 45 :: b : List UInt8), c ≠ 10 := by
      intro c hc
      simp only [List.mem_cons] at hc
      rcases hc with rfl | rfl | hc
      · decide
      · decide
      · exact (bd_byte hb hc).1
    have hlo := line_app (r := 10 :: t ++ 10 :: mdBody b l) h10 (bd_last hb)
    have hms := mark_self hb
    have hd2 : body.drop (0 + ((45 :: 45 :: b : List UInt8).length + 1)) = (10 :: t) ++ 10 :: mdBody b l := by
      rw [Nat.zero_add, hsp]
      rw [show (45 :: 45 :: b) ++ 10 :: (10 :: t ++ 10 :: mdBody b l) = ((45 :: 45 :: b) ++ [10]) ++ (10 :: t ++ 10 :: mdBody b l) by simp, show (45 :: 45 :: b : List UInt8).length + 1 = ((45 :: 45 :: b) ++ [10] : List UInt8).length by simp, List.drop_left]
    have hlen := congrArg List.length hsp
    simp only [List.length_append, List.length_cons] at hlen
    obtain ⟨f', hf', he⟩ := bt_text body b (0 + ((45 :: 45 :: b : List UInt8).length + 1)) [] (by simp) (10 :: t).length (10 :: t) (mdBody b l) body.length (0 + ((45 :: 45 :: b : List UInt8).length + 1)) (0 + (45 :: 45 :: b : List UInt8).length) (Nat.le_refl _)
      (tx_lf (hl t (by simp))).1 (tx_lf (hl t (by simp))).2 hd2 (by simp only [List.length_cons] at hlen ⊢; omega) (by simp only [List.length_cons] at hlen ⊢; omega)
    unfold betw btF
    rw [if_pos ⟨hal, by simp⟩, List.drop_zero]
    simp only
    conv => lhs; rw [hsp, hlo.1, hlo.2, hms.1, ← hsp]
    simp only [if_true]
    rw [he, bt_all body b hb l (10 :: t) [] _ f' _ [] (fun x hx => hl x (by simp [hx])) (by simp only [List.length_cons, List.length_nil] at hn ⊢; omega) (by rw [hd2]; simp) (by omega) hf']
    rfl

/-! ## The parts -/
theorem pc_ext (y : ByteArray) (q : Nat × Nat) : y.extract q.1 q.2 = bts (pcA y.data.toList q) := by
  apply ext_list
  rw [toList_bts]
  unfold pcA
  simp only [ByteArray.data_extract, Array.toList_extract, List.extract_eq_take_drop]
theorem parse_lf (t : List UInt8) : parseL (10 :: t) = ([], 1) := by
  have h := line_app (a := []) (r := t) (by simp) (by simp)
  rw [List.nil_append] at h
  rw [parseL_end h.1, h.2]
  rfl
theorem pt_plain (t : List UInt8) : kidsO (1, bts (10 :: t)) = [] ∧ ∃ co, ptOf (1, bts (10 :: t)) = ⟨1, ⟨#[116, 101, 120, 116, 47, 112, 108, 97, 105, 110]⟩, ⟨#[117, 115, 45, 97, 115, 99, 105, 105]⟩, co, bts t⟩ := by
  have hF : fldsL (bts (10 :: t)).data.toList = [] := by unfold fldsL; rw [toList_bts, parse_lf]; rfl
  have hV : rdV (bts (10 :: t)).data.toList = { data := #[] } := by unfold rdV; rw [hF]; rfl
  have hT : rdT (bts (10 :: t)).data.toList = ⟨#[116, 101, 120, 116, 47, 112, 108, 97, 105, 110]⟩ := by unfold rdT; rw [hV]; decide +kernel
  have hP : rdP (bts (10 :: t)).data.toList = [] := by unfold rdP; rw [hV]; decide +kernel
  have hC : rdC (bts (10 :: t)).data.toList = ⟨#[117, 115, 45, 97, 115, 99, 105, 105]⟩ := by unfold rdC; rw [hP]; decide +kernel
  have hK : rdK 1 (bts (10 :: t)) = [] := by
    unfold rdK kidsP
    rw [hT, if_neg (by decide), if_neg (by decide), if_neg (by rintro ⟨h, _⟩; revert h; decide)]
  have hY : rdY (bts (10 :: t)) = bts t := by
    unfold rdY
    rw [toList_bts, parse_lf]
    apply ext_list
    rw [toList_from, toList_bts, toList_bts]
    rfl
  constructor
  · unfold kidsO
    simp only
    rw [hK]
    rfl
  · refine ⟨rdD (bts (10 :: t)).data.toList, ?_⟩
    unfold ptOf
    simp only
    rw [hK, hT, hC, hY]
    rfl
theorem pts_plain : ∀ (l : List (List UInt8)) (f : Nat), l.length ≤ f → ∃ cos : List ByteArray, cos.length = l.length ∧ ptsF f (l.map (fun t => ((1 : Int), bts (10 :: t)))) = (l.zip cos).map (fun p => ⟨1, ⟨#[116, 101, 120, 116, 47, 112, 108, 97, 105, 110]⟩, ⟨#[117, 115, 45, 97, 115, 99, 105, 105]⟩, p.2, bts p.1⟩)
  | [], f, _ => ⟨[], rfl, by rw [List.map_nil, ptsF_nil]; rfl⟩
  | t :: l, 0, h => by simp at h
  | t :: l, f + 1, h => by
    obtain ⟨hk, co, hp⟩ := pt_plain t
    obtain ⟨cos, h1, h2⟩ := pts_plain l f (by simpa using h)
    refine ⟨co :: cos, by simp [h1], ?_⟩
    simp only [List.map_cons, ptsF, List.zip_cons_cons]
    rw [hk, hp, List.nil_append, h2]
/-- The parts of a mail that is made of texts. -/
theorem pts_md {b : List UInt8} (hb : BdOk b) (l : List (List UInt8)) (hl : ∀ t ∈ l, TxOk t) (hn : l.length < 255) (hne : l ≠ []) :
    ∃ (p : PT) (cos : List ByteArray), cos.length = l.length ∧ ptsL (bts (mdText b l)) = p :: (l.zip cos).map (fun p => ⟨1, ⟨#[116, 101, 120, 116, 47, 112, 108, 97, 105, 110]⟩, ⟨#[117, 115, 45, 97, 115, 99, 105, 105]⟩, p.2, bts p.1⟩) := by
  have hps := md_parse hb (mdBody b l)
  have hF : fldsL (bts (mdText b l)).data.toList = [(bts mdC, bts (mdT ++ mdB ++ b))] := by
    unfold fldsL mdText
    rw [toList_bts, hps]
    rfl
  have hV : rdV (bts (mdText b l)).data.toList = bts (mdT ++ mdB ++ b) := by
    unfold rdV
    rw [hF]
    unfold findR
    rw [if_pos (by unfold called; rw [decide_eq_true_eq]; rfl)]
  have hT : rdT (bts (mdText b l)).data.toList = bts mdT := by unfold rdT; rw [hV, toList_bts, (typ_md hb).1]
  have hP : rdP (bts (mdText b l)).data.toList = [(bts [98, 111, 117, 110, 100, 97, 114, 121], bts b)] := by unfold rdP; rw [hV, toList_bts, (typ_md hb).2]; rfl
  have hB : rdB (bts (mdText b l)).data.toList = bts b := by
    unfold rdB
    rw [hP]
    unfold findR
    rw [if_pos (by unfold called; rw [decide_eq_true_eq]; rfl)]
  have hY : rdY (bts (mdText b l)) = bts (mdBody b l) := by
    unfold rdY mdText
    rw [toList_bts, hps]
    apply ext_list
    rw [toList_from, toList_bts, toList_bts, List.drop_left]
  have hK : rdK 0 (bts (mdText b l)) = betw (mdBody b l) (45 :: 45 :: b) := by
    unfold rdK kidsP
    rw [hT, hB, hY, toList_bts, toList_bts, toList_bts, if_neg (by decide), if_neg (by decide), if_pos ⟨by decide, hb.1⟩]
    rfl
  have hKO : kidsO (0, bts (mdText b l)) = l.map (fun t => ((1 : Int), bts (10 :: t))) := by
    unfold kidsO
    simp only
    rw [hK, hY]
    have h := betw_md hb l hl hn hne
    generalize betw (mdBody b l) (45 :: 45 :: b) = L at h
    have h2 : L.map (fun q => ((0 : Int) + 1, (bts (mdBody b l)).extract q.1 q.2)) = (L.map (pcA (mdBody b l))).map (fun z => ((1 : Int), bts z)) := by
      rw [List.map_map]
      refine List.map_congr_left (fun q _ => ?_)
      simp only [Function.comp]
      rw [pc_ext, toList_bts]
      rfl
    rw [h2, h, List.map_map]
    rfl
  obtain ⟨cos, h1, h2⟩ := pts_plain l 255 (by omega)
  exact ⟨ptOf (0, bts (mdText b l)), cos, h1, by rw [ptsL_cons, hKO, h2]⟩
end Go.Proofs.YtedpimhhbajljaaDoor
