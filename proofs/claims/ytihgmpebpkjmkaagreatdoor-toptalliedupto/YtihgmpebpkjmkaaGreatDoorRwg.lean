/-
  Rows of whatever lies in some cells each: how a list of such things lies in this seat's program's world.
-/
import Derived.Test.YtihgmpebpkjmkaaGreatDoorBlc
import Derived.Laws.OwnMore
import Derived.Laws.MakeOwn
set_option linter.unusedVariables false
namespace Go.Proofs.YtihgmpebpkjmkaaGreatDoor
open Go.RowKit

section
variable {α : Type} {c : α → List Value} {k : Nat}

def flatG (c : α → List Value) (l : List α) : List Value := l.flatMap c
theorem flatG_append (a b : List α) : flatG c (a ++ b) = flatG c a ++ flatG c b := by simp [flatG]
theorem flatG_cons (x : α) (l : List α) : flatG c (x :: l) = c x ++ flatG c l := by simp [flatG]
theorem flatG_one (x : α) : flatG c [x] = c x := by simp [flatG]
theorem flatG_length (hc : ∀ x, (c x).length = k) (l : List α) : (flatG c l).length = l.length * k := by
  induction l with
  | nil => simp [flatG]
  | cons x l ih => rw [flatG_cons, List.length_append, ih, hc, List.length_cons, Nat.add_mul]; omega
theorem flatG_drop (hc : ∀ x, (c x).length = k) (l : List α) (j : Nat) : flatG c (l.drop j) = (flatG c l).drop (j * k) := by
  induction l generalizing j with
  | nil => simp [flatG]
  | cons x l ih =>
    cases j with
    | zero => simp
    | succ j => rw [List.drop_succ_cons, flatG_cons, ih, List.drop_append, hc, List.drop_of_length_le (l := c x) (by rw [hc, Nat.add_mul]; omega), show (j + 1) * k - k = j * k by rw [Nat.add_mul]; omega]; rfl
theorem flatG_take (hc : ∀ x, (c x).length = k) (l : List α) (j : Nat) : flatG c (l.take j) = (flatG c l).take (j * k) := by
  induction l generalizing j with
  | nil => simp [flatG]
  | cons x l ih =>
    cases j with
    | zero => simp [flatG]
    | succ j => rw [List.take_succ_cons, flatG_cons, flatG_cons, ih, List.take_append, hc, List.take_of_length_le (l := c x) (by rw [hc, Nat.add_mul]; omega), show (j + 1) * k - k = j * k by rw [Nat.add_mul]; omega]
theorem flatG_get (hc : ∀ x, (c x).length = k) (l : List α) (j : Nat) (h : j < l.length) (i : Nat) (hi : i < k) : (flatG c l)[j * k + i]? = (c l[j])[i]? := by
  have e : (flatG c l).drop (j * k) = c l[j] ++ flatG c (l.drop (j + 1)) := by rw [← flatG_drop hc, List.drop_eq_getElem_cons h, flatG_cons]
  rw [← List.getElem?_drop, e, List.getElem?_append_left (by rw [hc]; exact hi)]
theorem flatG_set (hc : ∀ x, (c x).length = k) (l : List α) (j : Nat) (h : j < l.length) (x : α) (i : Nat) (hi : i < k) (u : Value) (hx : c x = (c l[j]).set i u) : (flatG c l).set (j * k + i) u = flatG c (l.set j x) := by
  induction l generalizing j with
  | nil => simp at h
  | cons y r ih =>
    cases j with
    | zero =>
      simp only [List.getElem_cons_zero] at hx
      rw [Nat.zero_mul, Nat.zero_add, flatG_cons, List.set_cons_zero, flatG_cons, List.set_append_left _ _ (by rw [hc]; exact hi), hx]
    | succ j =>
      have := ih j (by simpa using h) (by simpa using hx)
      rw [flatG_cons, List.set_cons_succ, flatG_cons, ← this, List.set_append_right _ _ (by rw [hc, Nat.add_mul]; omega), hc, show (j + 1) * k + i - k = j * k + i by rw [Nat.add_mul]; omega]

/-- The value v is a slice whose elements are l. -/
def RowG (c : α → List Value) (Fit : α → Prop) (w : World) (v : Value) (l : List α) : Prop :=
  ∃ (a : Option Addr) (cap : Nat), v = .slice a l.length cap ∧ l.length ≤ 9223372036854775807 ∧ (∀ x ∈ l, Fit x) ∧
    (l = [] ∨ ∃ b off, a = some ⟨b, off, none⟩ ∧ b < w.heap.size ∧ ∀ j u, (flatG c l)[j]? = some u → w.cell? ⟨b, off + j, none⟩ = some u)
variable {Fit : α → Prop}
theorem RowG.below {w w' : World} {v : Value} {l : List α} (h : RowG c Fit w v l) (hb : Below w.heap.size w w') : RowG c Fit w' v l := by
  obtain ⟨a, cap, hv, hl, hn, hc⟩ := h
  refine ⟨a, cap, hv, hl, hn, ?_⟩
  rcases hc with hc | ⟨b, off, ha, hlt, hc⟩
  · exact Or.inl hc
  · have := hb.size
    refine Or.inr ⟨b, off, ha, by omega, fun j u hj => ?_⟩
    rw [hb.cell (p := ⟨b, off + j, none⟩) hlt]
    exact hc j u hj
theorem RowG.nil (w : World) (a : Option Addr) (cap : Nat) : RowG c Fit w (.slice a 0 cap) [] := ⟨a, cap, rfl, by simp, by simp, Or.inl rfl⟩
theorem RowG.len {w : World} {a : Option Addr} {n cap : Nat} {l : List α} (h : RowG c Fit w (.slice a n cap) l) : n = l.length := by
  obtain ⟨a', cap', hv, _⟩ := h
  injection hv
theorem RowG.at {w : World} {v : Value} {l : List α} (hc : ∀ x, (c x).length = k) (h : RowG c Fit w v l) {j : Nat} (hj : j < l.length) :
    ∃ b off cap, v = .slice (some ⟨b, off, none⟩) l.length cap ∧ b < w.heap.size ∧ ∀ i, i < k → w.cell? ⟨b, off + j * k + i, none⟩ = (c l[j])[i]? := by
  obtain ⟨a, cap, hv, hl, hn, h | ⟨b, off, ha, hlt, hcl⟩⟩ := h
  · subst h; simp at hj
  · subst ha
    refine ⟨b, off, cap, hv, hlt, fun i hi => ?_⟩
    have h1 := flatG_get hc l j hj i hi
    have h2 : i < (c l[j]).length := by rw [hc]; exact hi
    rw [List.getElem?_eq_getElem h2] at h1 ⊢
    rw [Nat.add_assoc]
    exact hcl _ _ h1

theorem rowG_of_own (hc : ∀ x, (c x).length = k) {w : World} {B : Nat} {e : TypeId} {v : Value} {l : List α} (h : w.ownsRow B e k v l.length (flatG c l)) (hl : l.length ≤ 9223372036854775807) (hf : ∀ x ∈ l, Fit x) : RowG c Fit w v l := by
  rcases h.2 with ⟨hv, h0⟩ | ⟨g, cap, cur, hv, hg, hh, hn', hm, hs, ht⟩
  · have : l = [] := List.eq_nil_of_length_eq_zero h0
    subst this
    exact ⟨none, 0, hv, by simp, by simp, Or.inl rfl⟩
  · refine ⟨_, cap, hv, hl, hf, Or.inr ⟨g, 0, rfl, (Array.getElem?_eq_some_iff.1 hh).1, fun j u hj => ?_⟩⟩
    have hjl : j < l.length * k := by
      rcases Nat.lt_or_ge j (flatG c l).length with h' | h'
      · rwa [flatG_length hc] at h'
      · rw [List.getElem?_eq_none h'] at hj; cases hj
    rw [← ht, List.getElem?_take, if_pos hjl] at hj
    simp only [World.cell?, hh, Nat.zero_add]
    simpa using hj
theorem ownG_at (hc : ∀ x, (c x).length = k) {w : World} {B : Nat} {e : TypeId} {v : Value} {l : List α} (h : w.ownsRow B e k v l.length (flatG c l)) {j : Nat} (hj : j < l.length) :
    ∃ g cap, v = .slice (some ⟨g, 0, none⟩) l.length cap ∧ B ≤ g ∧ g < w.heap.size ∧ (∀ i, i < k → w.cell? ⟨g, j * k + i, none⟩ = (c l[j])[i]?) ∧ ∀ i, w.frozen? ⟨g, i, none⟩ = false := by
  rcases h.2 with ⟨hv, h0⟩ | ⟨g, cap, cur, hv, hg, hh, hn', hm, hs, ht⟩
  · omega
  · refine ⟨g, cap, hv, hg, (Array.getElem?_eq_some_iff.1 hh).1, fun i hi => ?_, fun i => ?_⟩
    · have hlt : j * k + i < l.length * k := by
        have : (j + 1) * k ≤ l.length * k := Nat.mul_le_mul_right k hj
        rw [Nat.add_mul] at this
        omega
      rw [← flatG_get hc l j hj i hi, ← ht, List.getElem?_take, if_pos hlt]
      simp only [World.cell?, hh]
      simp
    · unfold World.frozen?
      simp only [hh]
      simp
theorem own_sliceG {w : World} {B e z : Nat} {v : Value} {n : Nat} {xs : List Value} (h : w.ownsRow B e z v n xs) : ∃ a cap, v = .slice a n cap ∧ n ≤ cap := by
  rcases h.2 with ⟨hv, h0⟩ | ⟨g, cap, cur, hv, hg, hh, hn', _⟩
  · exact ⟨none, 0, by rw [hv, h0], by omega⟩
  · exact ⟨_, cap, hv, hn'⟩
theorem below_own {w w1 w' : World} {B : Nat} {e : TypeId} {size : Nat} {v : Value} {n : Nat} {xs : List Value} (h : Below B w w1) (hown : w1.ownsRow B e size v n xs) (hg : w1.grownBy w' v.ownBlock) (hB : B ≤ w1.heap.size) : Below B w w' := by
  refine h.grown hg hB (fun k hk => ?_)
  rcases hown.2 with ⟨rfl, _⟩ | ⟨g, cap, cur, rfl, hg', _⟩
  · simp [Value.ownBlock] at hk
  · simp [Value.ownBlock] at hk; omega
theorem add_off0 (b off j : Nat) : Addr.add ⟨b, off, none⟩ j = ⟨b, off + j, none⟩ := by
  unfold Addr.add
  by_cases h0 : j = 0
  · simp [h0]
  · simp [h0]
/-- A row that was just built has its cells. -/
theorem new_cells (X : World) (e : TypeId) (cs : Array Value) (g : Nat) (hg : g = X.heap.size) (j : Nat) (u : Value) (h : cs.toList[j]? = some u) : (X.alloc (.cells cs e)).cell? (Addr.add ⟨g, 0, none⟩ j) = some u := by
  subst hg
  rw [add_off0, Nat.zero_add, Blk.cell (Blk.new X e cs)]
  simpa using h
end
theorem results_cell_tmp2 {fn : Func} {p u x : Tmp} {ty : TypeId} (h : fn.results = #[.cell p ty, .tmp u, .tmp x]) (tmps : Array Value) (P : Program) (w : World) :
    (results fn tmps).run P w =
      ((asAddr (tmps.getD p undef)).run P w).andThen fun a w₁ => ((loadVar ty a).run P w₁).andThen fun v w₂ => .ok (.tuple #[v, tmps.getD u undef, tmps.getD x undef]) w₂ := by
  simp only [results, h]
  simp [Sem.run_bind, Result.andThen]
end Go.Proofs.YtihgmpebpkjmkaaGreatDoor
