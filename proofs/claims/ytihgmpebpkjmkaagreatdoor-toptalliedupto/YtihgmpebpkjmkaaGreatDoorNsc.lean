/-
  The document's way to sort spans comes to the same: plain mathematics.
-/
import Derived.Test.YtihgmpebpkjmkaaGreatDoorNsa
set_option linter.unusedVariables false
namespace Go.Proofs.Nst

/-- The document's way: a span taken together with all that it touches. -/
def absorb : List Sp → List Sp → Nat → Nat → List Sp × Nat × Nat
  | [], rest, a, b => (rest, a, b)
  | y :: q, rest, a, b => if y.2 + 1 < a ∨ b + 1 < y.1 then absorb q (rest ++ [y]) a b else absorb q rest (min a y.1) (max b y.2)
def insAt (rest : List Sp) (a b : Nat) : List Sp := rest.takeWhile (fun y => decide (y.1 < a)) ++ (a, b) :: rest.dropWhile (fun y => decide (y.1 < a))
def refStep (out : List Sp) (s : Sp) : List Sp := insAt (absorb out [] s.1 s.2).1 (absorb out [] s.1 s.2).2.1 (absorb out [] s.1 s.2).2.2
def refSort (most : Nat) (l : List Sp) : List Sp := (l.map (ordS most)).foldl refStep []
structure Abs (p rest : List Sp) (a b a0 b0 : Nat) : Prop where
  le : a ≤ b
  sub : rest.Sublist p
  off : ∀ r ∈ rest, r.2 + 1 < a ∨ b + 1 < r.1
  mem : ∀ n, (memS n rest || inB n (a, b)) = (memS n p || inB n (a0, b0))
theorem absorb_ok (a0 b0 : Nat) : ∀ (q p rest : List Sp) (a b : Nat), Apart (p ++ q) → Abs p rest a b a0 b0 → Abs (p ++ q) (absorb q rest a b).1 (absorb q rest a b).2.1 (absorb q rest a b).2.2 a0 b0
  | [], p, rest, a, b, hA, h => by rw [List.append_nil]; exact h
  | y :: q, p, rest, a, b, hA, h => by
    have hA' : Apart ((p ++ [y]) ++ q) := by rw [List.append_assoc]; exact hA
    have hy := hA.ok y (by simp)
    have hpy : ∀ r ∈ p, r.2 + 1 < y.1 := fun r hr => (List.pairwise_append.1 hA.up).2.2 r hr y (by simp)
    have hok : ∀ r ∈ rest, r.1 ≤ r.2 := fun r hr => hA.ok r (by simp [h.sub.subset hr])
    have hle := h.le
    rw [show p ++ y :: q = (p ++ [y]) ++ q by simp]
    unfold absorb
    split
    · rename_i hc
      refine absorb_ok a0 b0 q (p ++ [y]) (rest ++ [y]) a b hA' ⟨h.le, h.sub.append (List.Sublist.refl _), fun r hr => ?_, fun n => ?_⟩
      · rcases List.mem_append.1 hr with hr | hr
        · exact h.off r hr
        · simp at hr; rw [hr]; exact hc
      · have := h.mem n
        rw [memS_append, memS_append, memS_one]
        cases h1 : memS n rest <;> cases h2 : memS n p <;> cases h3 : inB n (a, b) <;> cases h4 : inB n (a0, b0) <;> cases h5 : inB n y <;> simp_all
    · rename_i hc
      refine absorb_ok a0 b0 q (p ++ [y]) rest (min a y.1) (max b y.2) hA' ⟨by omega, h.sub.trans (List.sublist_append_left _ _), fun r hr => ?_, fun n => ?_⟩
      · have h1 := hpy r (h.sub.subset hr)
        have h2 := hok r hr
        rcases h.off r hr with h3 | h3 <;> omega
      · have h1 := h.mem n
        rw [memS_append, memS_one]
        have h2 : inB n (min a y.1, max b y.2) = (inB n (a, b) || inB n y) := by
          apply bool_ext
          rw [Bool.or_eq_true, inB_iff, inB_iff, inB_iff]
          simp only
          omega
        rw [h2, ← Bool.or_assoc, h1, Bool.or_assoc, Bool.or_comm (inB n (a0, b0)), ← Bool.or_assoc]
theorem refStep_ok {out : List Sp} {s : Sp} (hA : Apart out) (hs : s.1 ≤ s.2) : Apart (refStep out s) ∧ ∀ n, memS n (refStep out s) = (memS n out || inB n s) := by
  have h := absorb_ok s.1 s.2 out [] [] s.1 s.2 (by simpa using hA) ⟨hs, List.Sublist.refl _, by simp, fun n => rfl⟩
  rw [List.nil_append] at h
  unfold refStep
  generalize absorb out [] s.1 s.2 = R at h
  obtain ⟨rest, a, b⟩ := R
  simp only at h ⊢
  have hAr : Apart rest := ⟨fun r hr => hA.ok r (h.sub.subset hr), hA.up.sublist h.sub⟩
  have htd := List.takeWhile_append_dropWhile (p := fun y : Sp => decide (y.1 < a)) (l := rest)
  have hlo : ∀ r ∈ rest.takeWhile (fun y => decide (y.1 < a)), r.2 + 1 < a := by
    intro r hr
    have h1 : r.1 < a := by simpa using List.all_eq_true.1 (List.all_takeWhile (p := fun y : Sp => decide (y.1 < a)) (l := rest)) r hr
    have h2 : r ∈ rest := by rw [← htd]; exact List.mem_append_left _ hr
    have h3 := h.le
    rcases h.off r h2 with h4 | h4 <;> omega
  have hup := hAr.up
  rw [← htd] at hup
  obtain ⟨p1, p2, p3⟩ := List.pairwise_append.1 hup
  have hhi : ∀ r ∈ rest.dropWhile (fun y => decide (y.1 < a)), b + 1 < r.1 := by
    intro r hr
    have h2 : r ∈ rest := by rw [← htd]; exact List.mem_append_right _ hr
    have hge : a ≤ r.1 := by
      cases hd : rest.dropWhile (fun y => decide (y.1 < a)) with
      | nil => rw [hd] at hr; cases hr
      | cons x t =>
        have hx : ¬ x.1 < a := by
          have := List.head?_dropWhile_not (fun y : Sp => decide (y.1 < a)) rest
          rw [hd] at this
          simpa using this
        rw [hd] at hr p2
        rcases List.mem_cons.1 hr with rfl | hr
        · omega
        · have h5 := (List.pairwise_cons.1 p2).1 r hr
          have h6 : x ∈ rest := by rw [← htd, hd]; simp
          have h7 := hAr.ok x h6
          omega
    have h3 := hAr.ok r h2
    rcases h.off r h2 with h4 | h4 <;> omega
  have hle := h.le
  refine ⟨⟨fun r hr => ?_, ?_⟩, fun n => ?_⟩
  · unfold insAt at hr
    rcases List.mem_append.1 hr with hr | hr
    · exact hAr.ok r (by rw [← htd]; exact List.mem_append_left _ hr)
    · rcases List.mem_cons.1 hr with rfl | hr
      · exact h.le
      · exact hAr.ok r (by rw [← htd]; exact List.mem_append_right _ hr)
  · unfold insAt
    rw [List.pairwise_append]
    refine ⟨p1, List.pairwise_cons.2 ⟨fun r hr => hhi r hr, p2⟩, fun r hr c hc => ?_⟩
    rcases List.mem_cons.1 hc with rfl | hc
    · exact hlo r hr
    · have := hlo r hr; have := hhi c hc; omega
  · rw [← h.mem n]
    unfold insAt
    conv => rhs; rw [← htd]
    rw [memS_append, memS_cons, memS_append]
    cases memS n (rest.takeWhile (fun y => decide (y.1 < a))) <;> cases inB n (a, b) <;> cases memS n (rest.dropWhile (fun y => decide (y.1 < a))) <;> rfl
theorem refSort_is (most : Nat) (l : List Sp) : refSort most l = apartS most l := by
  have key : ∀ (r out : List Sp), Apart out → (∀ s ∈ r, s.1 ≤ s.2) → Apart (r.foldl refStep out) ∧ ∀ n, memS n (r.foldl refStep out) = (memS n out || memS n r) := by
    intro r
    induction r with
    | nil => intro out h _; exact ⟨h, fun n => by simp [memS_nil]⟩
    | cons s r ih =>
      intro out h ho
      obtain ⟨h1, h2⟩ := refStep_ok h (ho s List.mem_cons_self)
      obtain ⟨h3, h4⟩ := ih (refStep out s) h1 (fun x hx => ho x (List.mem_cons_of_mem _ hx))
      exact ⟨h3, fun n => by rw [List.foldl_cons, h4, h2, memS_cons, Bool.or_assoc]⟩
  obtain ⟨h1, h2⟩ := key (l.map (ordS most)) [] ⟨by simp, by simp⟩ (ord_ok most l)
  obtain ⟨h3, h4⟩ := apartS_ok most l
  exact apart_unique _ _ h1 h3 (fun n => by rw [h4]; exact (h2 n).trans (by rw [memS_nil, Bool.false_or]; rfl))
end Go.Proofs.Nst
