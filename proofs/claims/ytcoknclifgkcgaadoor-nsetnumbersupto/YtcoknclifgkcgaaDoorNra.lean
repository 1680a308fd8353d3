/-
  What is needed for missiveref03.Sort: lengths, bounds and appends of spans, over this seat's program.
-/
import Derived.Test.YtcoknclifgkcgaaDoorNwe
import Derived.BigRegion
import Derived.Deep.RegionLaw
set_option linter.unusedVariables false
namespace Go.Proofs.YtcoknclifgkcgaaDoor
open Go.RowKit Go.Proofs.Nst

theorem absorb_len : ∀ (q rest : List Sp) (a b : Nat), (absorb q rest a b).1.length ≤ rest.length + q.length
  | [], rest, a, b => by simp [absorb]
  | y :: q, rest, a, b => by
    unfold absorb
    split
    · have := absorb_len q (rest ++ [y]) a b
      simp at this ⊢
      omega
    · have := absorb_len q rest (min a y.1) (max b y.2)
      simp at this ⊢
      omega
theorem absorb_fit : ∀ (q rest : List Sp) (a b : Nat), (∀ x ∈ q, FitS x) → (∀ x ∈ rest, FitS x) → a ≤ 4294967295 → b ≤ 4294967295 → (∀ x ∈ (absorb q rest a b).1, FitS x) ∧ (absorb q rest a b).2.1 ≤ 4294967295 ∧ (absorb q rest a b).2.2 ≤ 4294967295
  | [], rest, a, b, _, hr, ha, hb => by unfold absorb; exact ⟨hr, ha, hb⟩
  | y :: q, rest, a, b, hq, hr, ha, hb => by
    have hy := hq y List.mem_cons_self
    have hq' : ∀ x ∈ q, FitS x := fun x hx => hq x (List.mem_cons_of_mem _ hx)
    unfold FitS at hy
    unfold absorb
    split
    · refine absorb_fit q (rest ++ [y]) a b hq' (fun x hx => ?_) ha hb
      rcases List.mem_append.1 hx with h | h
      · exact hr x h
      · simp at h; rw [h]; exact hy
    · exact absorb_fit q rest _ _ hq' hr (by omega) (by omega)
theorem insAt_len (r : List Sp) (a b : Nat) : (insAt r a b).length = r.length + 1 := by
  unfold insAt
  have h : ∀ p : Sp → Bool, (r.takeWhile p).length + (r.dropWhile p).length = r.length := fun p => by rw [← List.length_append, List.takeWhile_append_dropWhile]
  rw [List.length_append, List.length_cons, ← Nat.add_assoc, h]
theorem refStep_len (out : List Sp) (s : Sp) : (refStep out s).length ≤ out.length + 1 := by
  unfold refStep
  rw [insAt_len]
  have := absorb_len out [] s.1 s.2
  simp at this
  omega
theorem insAt_fit {r : List Sp} {a b : Nat} (hr : ∀ x ∈ r, FitS x) (ha : a ≤ 4294967295) (hb : b ≤ 4294967295) : ∀ x ∈ insAt r a b, FitS x := by
  intro x hx
  have htd := List.takeWhile_append_dropWhile (p := fun y : Sp => decide (y.1 < a)) (l := r)
  unfold insAt at hx
  rcases List.mem_append.1 hx with h | h
  · exact hr x (by rw [← htd]; exact List.mem_append_left _ h)
  · rcases List.mem_cons.1 h with rfl | h
    · exact ⟨ha, hb⟩
    · exact hr x (by rw [← htd]; exact List.mem_append_right _ h)
theorem ordS_fit {m : Nat} {s : Sp} (hm : m ≤ 4294967295) (hs : FitS s) : FitS (ordS m s) := by
  unfold FitS at hs ⊢
  unfold ordS endN
  simp only
  split <;> split <;> omega
theorem refStep_fit {out : List Sp} {s : Sp} (ho : ∀ x ∈ out, FitS x) (hs : FitS s) : ∀ x ∈ refStep out s, FitS x := by
  have h := absorb_fit out [] s.1 s.2 ho (by simp) hs.1 hs.2
  unfold refStep
  exact insAt_fit h.1 h.2.1 h.2.2
theorem takeWhile_at : ∀ (r : List Sp) (a c : Nat), c ≤ r.length → (∀ (j : Nat) (h : j < r.length), j < c → (r[j]).1 < a) → (∀ h : c < r.length, ¬ (r[c]).1 < a) → r.takeWhile (fun y => decide (y.1 < a)) = r.take c ∧ r.dropWhile (fun y => decide (y.1 < a)) = r.drop c
  | [], a, c, hc, _, _ => by simp
  | y :: r, a, c, hc, h1, h2 => by
    cases c with
    | zero =>
      have := h2 (by simp)
      simp only [List.getElem_cons_zero] at this
      simp [this]
    | succ c =>
      have hx := h1 0 (by simp) (by omega)
      simp only [List.getElem_cons_zero] at hx
      obtain ⟨h3, h4⟩ := takeWhile_at r a c (by simpa using hc) (fun j h hj => by have := h1 (j + 1) (by simpa using h) (by omega); simpa using this) (fun h => by have := h2 (by simpa using h); simpa using this)
      simp [hx, h3, h4]
theorem insAt_at {r : List Sp} {a b c : Nat} (hc : c ≤ r.length) (h1 : ∀ (j : Nat) (h : j < r.length), j < c → (r[j]).1 < a) (h2 : ∀ h : c < r.length, ¬ (r[c]).1 < a) : insAt r a b = [] ++ r.take c ++ [(a, b)] ++ r.drop c := by
  obtain ⟨h3, h4⟩ := takeWhile_at r a c hc h1 h2
  unfold insAt
  rw [h3, h4]
  simp
theorem fold_take {l : List Sp} {k m : Nat} (h : k < l.length) : ((l.take (k + 1)).map (ordS m)).foldl refStep [] = refStep (((l.take k).map (ordS m)).foldl refStep []) (ordS m l[k]) := by
  rw [List.take_succ_eq_append_getElem h, List.map_append, List.foldl_append]
  rfl
theorem fold_fit {m : Nat} (hm : m ≤ 4294967295) : ∀ (l out : List Sp), (∀ x ∈ l, FitS x) → (∀ x ∈ out, FitS x) → ((l.map (ordS m)).foldl refStep out).length ≤ out.length + l.length ∧ ∀ x ∈ (l.map (ordS m)).foldl refStep out, FitS x
  | [], out, _, ho => ⟨by simp, by simpa using ho⟩
  | s :: r, out, hl, ho => by
    have h := fold_fit hm r (refStep out (ordS m s)) (fun x hx => hl x (List.mem_cons_of_mem _ hx)) (refStep_fit ho (ordS_fit hm (hl s List.mem_cons_self)))
    have h2 := refStep_len out (ordS m s)
    refine ⟨?_, h.2⟩
    have h3 := h.1
    simp only [List.map_cons, List.foldl_cons, List.length_cons]
    omega
theorem absorb_off {q rest : List Sp} {y : Sp} {a b : Nat} (h : y.2 + 1 < a ∨ b + 1 < y.1) : absorb (y :: q) rest a b = absorb q (rest ++ [y]) a b := by rw [absorb, if_pos h]
theorem absorb_on {q rest : List Sp} {y : Sp} {a b : Nat} (h : ¬ (y.2 + 1 < a ∨ b + 1 < y.1)) : absorb (y :: q) rest a b = absorb q rest (min a y.1) (max b y.2) := by rw [absorb, if_neg h]

theorem cut_rowS {w : World} {a : Option Addr} {cap : Nat} {l : List Sp} {f t : Nat} (h : RowSp w (.slice a l.length cap) l) (hft : f ≤ t) (htl : t ≤ l.length) (hcap : l.length ≤ cap) : RowSp w (sliced a f t cap 2) ((l.drop f).take (t - f)) := by
  obtain ⟨a', cap', hv, hlm, hn, hc⟩ := h
  injection hv with h1 h2 h3
  subst h1 h3
  have hlen : ((l.drop f).take (t - f)).length = t - f := by rw [List.length_take, List.length_drop]; omega
  refine ⟨if cap = f then a else a.map (·.add (f * 2)), cap - f, by unfold sliced; rw [hlen], by omega, fun n hm => hn n (List.mem_of_mem_drop (List.mem_of_mem_take hm)), ?_⟩
  rcases hc with hc | ⟨b, off, ha, hlt, hc⟩
  · left; subst hc; simp
  · by_cases he : f = t
    · left; subst he; simp
    · right
      refine ⟨b, off + f * 2, ?_, hlt, fun j u hj => ?_⟩
      · rw [if_neg (by omega), ha]; simp [add_off0]
      · rw [flatG_take cellsS_len, flatG_drop cellsS_len, List.getElem?_take] at hj
        split at hj
        · rw [List.getElem?_drop] at hj
          rw [Nat.add_assoc]
          exact hc _ _ hj
        · cases hj
def Nils (v : Value) : Prop := ∀ n c, v = .slice none n c → n = 0 ∧ c = 0
theorem nils_own {w : World} {B e z : Nat} {v : Value} {n : Nat} {xs : List Value} (h : w.ownsRow B e z v n xs) : Nils v := by
  rcases h.2 with ⟨h1, h0⟩ | ⟨g, cap', cur, h1, _⟩
  · intro m c hv; rw [hv] at h1; injection h1 with _ h2 h3; exact ⟨h2, h3⟩
  · intro m c hv; rw [hv] at h1; injection h1 with h2; cases h2
theorem nils_cut {a : Option Addr} {n cap f t : Nat} (h : Nils (.slice a n cap)) (ht : t ≤ cap) : Nils (sliced a f t cap 2) := by
  intro m c hv
  unfold sliced at hv
  injection hv with h1 h2 h3
  have ha : a = none := by
    split at h1
    · exact h1
    · cases a with
      | none => rfl
      | some x => cases h1
  subst ha
  obtain ⟨_, h5⟩ := h _ _ rfl
  omega
theorem row_oneS {X : World} {g A B : Nat} (h : X.heap[g]? = some (.cells #[.int .u32 (A : Int), .int .u32 (B : Int)] 44 (0, 0))) (hA : A ≤ 4294967295) (hB : B ≤ 4294967295) : RowSp X (.slice (some ⟨g, 0, none⟩) 1 1) [(A, B)] := by
  refine ⟨_, 1, rfl, by simp, fun x hx => ?_, Or.inr ⟨g, 0, rfl, (Array.getElem?_eq_some_iff.1 h).1, fun j u hj => ?_⟩⟩
  · simp at hx; rw [hx]; exact ⟨hA, hB⟩
  · rw [Nat.zero_add, Lib.cell_of_heap h j]
    simpa [flatG, cellsS] using hj
theorem nils_some (a : Addr) (n c : Nat) : Nils (.slice (some a) n c) := fun m c' h => by injection h with h1; cases h1
theorem own_emptyR {X : World} {B g : Nat} (hX : X.heap[g]? = some (.cells #[] 44 (0, 0))) (hg : B ≤ g) : X.ownsRow B 44 2 (.slice (some ⟨g, 0, none⟩) 0 0) ([] : List Sp).length (flatG cellsS []) :=
  ⟨rfl, Or.inr ⟨g, 0, #[], rfl, hg, hX, Nat.le_refl _, by unfold maxLen; omega, rfl, rfl⟩⟩

theorem run_append_spR (w : World) (B : Nat) (v x : Value) (k l : List Sp) (ty : TypeId) (hown : w.ownsRow B 44 2 v k.length (flatG cellsS k)) (hx : RowSp w x l) (hnt : Nils x) (hkl : k.length + l.length ≤ 4194304) (hB : B ≤ w.heap.size) :
    ∃ v' w', (Builtin.append_ #[22, 22] ty #[v, x]).run Tryd.prog w = .ok v' w' ∧ w'.ownsRow B 44 2 v' (k ++ l).length (flatG cellsS (k ++ l)) ∧ w.grownBy w' v.ownBlock := by
  obtain ⟨i0, hi, hz0, hz1, hz2⟩ := info_partsN spInfo
  obtain ⟨a, cap, rfl, hl, hr, hc⟩ := hx
  cases a with
  | none =>
    obtain ⟨h0, rfl⟩ := hnt _ _ rfl
    have hl : l = [] := List.eq_nil_of_length_eq_zero h0
    subst hl
    refine ⟨v, w, run_append_owned_none (P := Tryd.prog) (w := w) B 22 ty 44 i0 2 Tryd.underlying22 hi v _ _ hown, by simpa using hown, ⟨rfl, rfl, rfl, Nat.le_refl _, fun _ _ _ => rfl⟩⟩
  | some ad =>
    have hnews : ∀ j u, (flatG cellsS l)[j]? = some u → w.cell? (ad.add j) = some u := by
      intro j u hj
      rcases hc with hc | ⟨b, off, ha, hlt, hc⟩
      · subst hc; simp [flatG] at hj
      · obtain rfl := Option.some.inj ha
        rw [add_off0]
        exact hc j u hj
    obtain ⟨v', w', hrun, h2, h3, h4⟩ := run_append_own (P := Tryd.prog) w B 22 ty 44 i0 (.agg #[.int .u32 0, .int .u32 0]) 2 8 Tryd.underlying22 hi hz0 hz1 hz2 rfl (by decide) v k.length (flatG cellsS k) hown ad l.length cap (flatG cellsS l) (flatG_length cellsS_len l) hnews (by
      intro u hu
      obtain ⟨n, _, hn⟩ := List.mem_flatMap.1 hu
      simp only [cellsS, List.mem_cons, List.not_mem_nil, or_false] at hn
      rcases hn with rfl | rfl <;> rfl) (by unfold maxLen; omega) (by omega) hB
    exact ⟨v', w', hrun, by rw [List.length_append, flatG_append]; exact h2, h3⟩
theorem step_append_spR {ops : Array Oper} {o : Oper} {a : Act} {w : World} {K : Act → World → Prop} {Q : Exit → Act → World → Prop} {E : Prop} (hgd : o.guard = none) (s x : Operand)
    (ho : o.op = .call { callee := .builtin .append, args := #[s, x], argTypes := #[22, 22] })
    (B : Nat) (v xv : Value) (k l : List Sp) (hs : a.eval s = v) (hx : a.eval x = xv) (hown : w.ownsRow B 44 2 v k.length (flatG cellsS k)) (hr : RowSp w xv l) (hnt : Nils xv) (hkl : k.length + l.length ≤ 4194304) (hB : B ≤ w.heap.size)
    (h : ∀ v' w', w'.ownsRow B 44 2 v' (k ++ l).length (flatG cellsS (k ++ l)) → w.grownBy w' v.ownBlock → K (a.put o.dst v') w') :
    if Region.wanted o (yielded ops a.tmps) = true then Oper.wp Tryd.prog o a w K Q else E := by
  have hw : Region.wanted o (yielded ops a.tmps) = true := by simp [Region.wanted, hgd]
  rw [if_pos hw]
  obtain ⟨v', w', hrun, h2, h3⟩ := run_append_spR w B v xv k l o.type hown hr hnt hkl hB
  unfold Oper.wp
  simp [execOp, ho, resolve, invoke, builtin, hs, hx, hrun, Result.andThen]
  exact h v' w' h2 h3
set_option maxRecDepth 100000 in
theorem uptoS_run (a : Option Addr) (n cap : Nat) (t : Nat) (htl : t ≤ cap) (w : World) :
    (Instr.slice 22 (.slice a n cap) none (some (.int .i64 (t : Int))) none).run Tryd.prog w = .ok (sliced a 0 t cap 2) w := by
  rw [run_slice_h (P := Tryd.prog) w 22 a n cap (by kernel_rfl) .i64 t (by omega) (by omega)]
  obtain ⟨i0, hi, hz0, hz1, hz2⟩ := info_partsN spInfo
  have he : Tryd.prog.elem 22 = 44 := by kernel_rfl
  rw [he]
  go_simp
set_option maxRecDepth 100000 in
theorem fromS_run (a : Option Addr) (n cap : Nat) (f : Nat) (htl : f ≤ n) (w : World) :
    (Instr.slice 22 (.slice a n cap) (some (.int .i64 (f : Int))) none none).run Tryd.prog w = .ok (sliced a f n cap 2) w := by
  rw [run_slice_l (P := Tryd.prog) w 22 a n cap (by kernel_rfl) .i64 f (by omega) (by omega)]
  obtain ⟨i0, hi, hz0, hz1, hz2⟩ := info_partsN spInfo
  have he : Tryd.prog.elem 22 = 44 := by kernel_rfl
  rw [he]
  go_simp
end Go.Proofs.YtcoknclifgkcgaaDoor
