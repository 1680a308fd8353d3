/-
  What strings.Trim and head.Parse do, over this seat's program: a header's fields, and where the body begins.
-/
import Derived.Test.YtdallfakfhajdaaGreatDoorBnd9
import Derived.ScopeJumps
import Derived.WalkMore
import Derived.Shelf.Strings.SlTrimAscii
set_option linter.unusedVariables false
namespace Go.Proofs.YtdallfakfhajdaaGreatDoor
open Go.RowKit Go.Proofs.Hed

theorem trim_lib (l : List UInt8) : Lib.trimS l [32, 9] = trimL l := by
  have e : (fun b : UInt8 => ([32, 9] : List UInt8).contains b) = isB := by
    funext b
    show List.elem b [32, 9] = (b == 32 || b == 9)
    simp only [List.elem]
    cases (b == 32) <;> cases (b == 9) <;> rfl
  unfold Lib.trimS Lib.trimLeftS Lib.trimRightS trimL
  simp only [e]
theorem trim_any (s : ByteArray) (w : World) (hs : s.size ≤ 16777216) :
    Calls Tryz.prog 59 #[.string s, .string ⟨#[32, 9]⟩] w fun e w' => e = .returned (.string (bts (trimL s.data.toList))) ∧ Below w.heap.size w w' := by
  have h := Any.strings_Trim_laid Tryz.lays160 (by kernel_rfl) s ⟨#[32, 9]⟩ w (by omega) (by decide) (ascii_of_all (by decide))
  rw [show (⟨#[32, 9]⟩ : ByteArray).data.toList = [32, 9] from rfl, trim_lib] at h
  exact h
theorem trimL_len (l : List UInt8) : (trimL l).length ≤ l.length := by
  unfold trimL
  have h1 := (List.dropWhile_sublist (p := isB) (l := (l.reverse.dropWhile isB).reverse)).length_le
  have h2 := (List.dropWhile_sublist (p := isB) (l := l.reverse)).length_le
  simp at h1 h2
  omega

/-- A goto to label l0: J0; to label l1: J1; to any other: no way out. -/
def jumpTwo (l0 l1 : Nat) (J0 J1 : Act → World → Prop) (Q : Exit → Act → World → Prop) : Exit → Act → World → Prop
  | .goto l', a, w => (l' = l0 ∧ J0 a w) ∨ (l' = l1 ∧ J1 a w)
  | e, a, w => Q e a w

section
variable {P : Program} {a : Act} {w : World} {Q : Exit → Act → World → Prop}

/-- A scope with two labels: the run comes back to both, each time with less to do. -/
theorem wp_scope_both {c rest0 rest1 : Code} (l0 l1 : Nat) (hne : l0 ≠ l1) (J0 J1 : Act → World → Prop) (μ : Act → World → Nat) (hf0 : findLabel c l0 = some (Code.skip.seq rest0)) (hf1 : findLabel c l1 = some (Code.skip.seq rest1))
    (first : (∀ a w, J0 a w → rest0.wp P (jumpTwo l0 l1 J0 J1 Q) a w) → c.wp P (jumpTwo l0 l1 J0 J1 Q) a w)
    (pass0 : ∀ a w, (∀ a₁ w₁, J1 a₁ w₁ → μ a₁ w₁ ≤ μ a w → rest1.wp P (jumpTwo l0 l1 (fun a' w' => J0 a' w' ∧ μ a' w' < μ a w) (fun a' w' => J1 a' w' ∧ μ a' w' < μ a w) Q) a₁ w₁) → J0 a w → rest0.wp P (jumpTwo l0 l1 (fun a' w' => J0 a' w' ∧ μ a' w' < μ a w) (fun a' w' => J1 a' w' ∧ μ a' w' < μ a w) Q) a w)
    (pass1 : ∀ a w, J1 a w → rest1.wp P (jumpTwo l0 l1 (fun a' w' => J0 a' w' ∧ μ a' w' < μ a w) (fun a' w' => J1 a' w' ∧ μ a' w' < μ a w) Q) a w) : (Code.scope c).wp P Q a w := by
  have pass0 : ∀ a w, J0 a w → rest0.wp P (jumpTwo l0 l1 (fun a' w' => J0 a' w' ∧ μ a' w' < μ a w) (fun a' w' => J1 a' w' ∧ μ a' w' < μ a w) Q) a w := fun a w h => pass0 a w (fun a₁ w₁ h1 hle => wp_mono (pass1 a₁ w₁ h1) fun e a' w' hq => by
    cases e with
    | goto l' => rcases hq with ⟨e, hj, hl⟩ | ⟨e, hj, hl⟩
                 · exact Or.inl ⟨e, hj, by omega⟩
                 · exact Or.inr ⟨e, hj, by omega⟩
    | _ => exact hq) h
  have pass0' : ∀ a w, J0 a w → (Code.skip.seq rest0).wp P (jumpTwo l0 l1 (fun a' w' => J0 a' w' ∧ μ a' w' < μ a w) (fun a' w' => J1 a' w' ∧ μ a' w' < μ a w) Q) a w := fun a w h => wp_seq (wp_skip (pass0 a w h))
  have pass1' : ∀ a w, J1 a w → (Code.skip.seq rest1).wp P (jumpTwo l0 l1 (fun a' w' => J0 a' w' ∧ μ a' w' < μ a w) (fun a' w' => J1 a' w' ∧ μ a' w' < μ a w) Q) a w := fun a w h => wp_seq (wp_skip (pass1 a w h))
  intro b k cs
  have hg0 : gotoIn l0 (.inScope c :: k) = some (.code (Code.skip.seq rest0) :: .inScope c :: k) := by simp [gotoIn, hf0]
  have hg1 : gotoIn l1 (.inScope c :: k) = some (.code (Code.skip.seq rest1) :: .inScope c :: k) := by simp [gotoIn, hf1]
  have key : ∀ n a w, μ a w = n → (J0 a w → ∃ e a' w', Q e a' w' ∧ Arrives P (lone (b.at a (.code (Code.skip.seq rest0) :: .inScope c :: k)) cs w) b k cs e a' w') ∧ (J1 a w → ∃ e a' w', Q e a' w' ∧ Arrives P (lone (b.at a (.code (Code.skip.seq rest1) :: .inScope c :: k)) cs w) b k cs e a' w') := by
    intro n
    induction n using Nat.strongRecOn with
    | _ n ih =>
      intro a w hn
      constructor
      · intro hJ
        obtain ⟨e, a₁, w₁, hq, harr⟩ := pass0' a w hJ b (.inScope c :: k) cs
        cases e with
        | normal => exact ⟨.normal, a₁, w₁, hq, Steps.trans harr (.one step_inScope)⟩
        | exit id => exact ⟨.exit id, a₁, w₁, hq, fun k' hk => harr k' (by simp [exitTo, hk])⟩
        | goto l' =>
          rcases hq with ⟨rfl, hJ', hlt⟩ | ⟨rfl, hJ', hlt⟩
          · obtain ⟨e₂, a₂, w₂, hq₂, harr₂⟩ := (ih _ (by omega) a₁ w₁ rfl).1 hJ'
            exact ⟨e₂, a₂, w₂, hq₂, .of_steps (harr _ hg0) harr₂⟩
          · obtain ⟨e₂, a₂, w₂, hq₂, harr₂⟩ := (ih _ (by omega) a₁ w₁ rfl).2 hJ'
            exact ⟨e₂, a₂, w₂, hq₂, .of_steps (harr _ hg1) harr₂⟩
        | ret => exact ⟨_, a₁, w₁, hq, harr⟩
        | panic ch => exact ⟨_, a₁, w₁, hq, harr⟩
        | outgrown => exact ⟨_, a₁, w₁, hq, harr⟩
      · intro hJ
        obtain ⟨e, a₁, w₁, hq, harr⟩ := pass1' a w hJ b (.inScope c :: k) cs
        cases e with
        | normal => exact ⟨.normal, a₁, w₁, hq, Steps.trans harr (.one step_inScope)⟩
        | exit id => exact ⟨.exit id, a₁, w₁, hq, fun k' hk => harr k' (by simp [exitTo, hk])⟩
        | goto l' =>
          rcases hq with ⟨rfl, hJ', hlt⟩ | ⟨rfl, hJ', hlt⟩
          · obtain ⟨e₂, a₂, w₂, hq₂, harr₂⟩ := (ih _ (by omega) a₁ w₁ rfl).1 hJ'
            exact ⟨e₂, a₂, w₂, hq₂, .of_steps (harr _ hg0) harr₂⟩
          · obtain ⟨e₂, a₂, w₂, hq₂, harr₂⟩ := (ih _ (by omega) a₁ w₁ rfl).2 hJ'
            exact ⟨e₂, a₂, w₂, hq₂, .of_steps (harr _ hg1) harr₂⟩
        | ret => exact ⟨_, a₁, w₁, hq, harr⟩
        | panic ch => exact ⟨_, a₁, w₁, hq, harr⟩
        | outgrown => exact ⟨_, a₁, w₁, hq, harr⟩
  have hp : ∀ a w, J0 a w → rest0.wp P (jumpTwo l0 l1 J0 J1 Q) a w := fun a w h => wp_mono (pass0 a w h) fun e a' w' hq => by
    cases e with
    | goto l' => rcases hq with ⟨e, hj, _⟩ | ⟨e, hj, _⟩
                 · exact Or.inl ⟨e, hj⟩
                 · exact Or.inr ⟨e, hj⟩
    | _ => exact hq
  obtain ⟨e, a₁, w₁, hq, harr⟩ := first hp b (.inScope c :: k) cs
  cases e with
  | normal => exact ⟨.normal, a₁, w₁, hq, .head step_scope (Steps.trans harr (.one step_inScope))⟩
  | exit id => exact ⟨.exit id, a₁, w₁, hq, fun k' hk => .head step_scope (harr k' (by simp [exitTo, hk]))⟩
  | goto l' =>
    rcases hq with ⟨rfl, hJ'⟩ | ⟨rfl, hJ'⟩
    · obtain ⟨e₂, a₂, w₂, hq₂, harr₂⟩ := (key _ a₁ w₁ rfl).1 hJ'
      exact ⟨e₂, a₂, w₂, hq₂, .of_steps (.head step_scope (harr _ hg0)) harr₂⟩
    · obtain ⟨e₂, a₂, w₂, hq₂, harr₂⟩ := (key _ a₁ w₁ rfl).2 hJ'
      exact ⟨e₂, a₂, w₂, hq₂, .of_steps (.head step_scope (harr _ hg1)) harr₂⟩
  | ret => exact ⟨_, a₁, w₁, hq, .of_steps (.one step_scope) harr⟩
  | panic ch => exact ⟨_, a₁, w₁, hq, .of_steps (.one step_scope) harr⟩
  | outgrown => exact ⟨_, a₁, w₁, hq, .of_steps (.one step_scope) harr⟩
end

/-- What was parsed up to a place. -/
structure Inv (s : List UInt8) (k : Nat) (all : List (List UInt8 × List UInt8)) (acc : List Fld) : Prop where
  flds : all ++ (parseL (s.drop k)).1 = (parseL s).1
  body : k + (parseL (s.drop k)).2 = (parseL s).2
  kept : acc.map lst = all.take 1024
  len : acc.length ≤ 1024
  fits : ∀ f ∈ acc, Fits f
/-- What was parsed up to a line of a field. -/
structure Inv1 (s : List UInt8) (k : Nat) (all : List (List UInt8 × List UInt8)) (acc : List Fld) (n x : List UInt8) : Prop where
  flds : all ++ ((n, trimL (x ++ (contL (s.drop k)).1)) :: (parseL (s.drop (k + (contL (s.drop k)).2))).1) = (parseL s).1
  body : k + (contL (s.drop k)).2 + (parseL (s.drop (k + (contL (s.drop k)).2))).2 = (parseL s).2
  kept : acc.map lst = all.take 1024
  len : acc.length ≤ 1024
  fits : ∀ f ∈ acc, Fits f

/-- What the frame of Parse holds at its label 'field'. -/
def Jfield (s : ByteArray) (w : World) (a' : Act) (w' : World) : Prop :=
  ∃ (k : Nat) (lv : Value) (acc : List Fld) (all : List (List UInt8 × List UInt8)) (u : Nat → Value), a' = { tmps := #[.string s, undef, .slice none 0 0, .int .i64 0, lv, .int .i64 k, .string (bts (lineOf (s.data.toList.drop k))), .int .i64 (lineN (s.data.toList.drop k) : Int), u 8, u 9, u 10, u 11, u 12, u 13, u 14, u 15, u 16, u 17, u 18, u 19, u 20, u 21, u 22, u 23, u 24, u 25, u 26, u 27, u 28, u 29, u 30, u 31, u 32, u 33, u 34, u 35, u 36, u 37, u 38, u 39, u 40, u 41, u 42, u 43, u 44, u 45, u 46, u 47, u 48, u 49, u 50, u 51, u 52, u 53, u 54, u 55, u 56, u 57, u 58, u 59, u 60, u 61, u 62, u 63, u 64, u 65, u 66, u 67, u 68], defers := [] } ∧ k ≤ s.size ∧ Hid (Inv s.data.toList k all acc) ∧ Hid (w'.ownsRow w.heap.size 39 2 lv acc.length (flatF acc)) ∧ Hid (Below w.heap.size w w')
theorem Jfield.mk {s : ByteArray} {w : World} {a' : Act} {w' : World} (k : Nat) (lv : Value) (acc : List Fld) (all : List (List UInt8 × List UInt8))
    (ha : a' = { tmps := #[.string s, undef, .slice none 0 0, .int .i64 0, lv, .int .i64 k, .string (bts (lineOf (s.data.toList.drop k))), .int .i64 (lineN (s.data.toList.drop k) : Int), a'.tmps.getD 8 undef, a'.tmps.getD 9 undef, a'.tmps.getD 10 undef, a'.tmps.getD 11 undef, a'.tmps.getD 12 undef, a'.tmps.getD 13 undef, a'.tmps.getD 14 undef, a'.tmps.getD 15 undef, a'.tmps.getD 16 undef, a'.tmps.getD 17 undef, a'.tmps.getD 18 undef, a'.tmps.getD 19 undef, a'.tmps.getD 20 undef, a'.tmps.getD 21 undef, a'.tmps.getD 22 undef, a'.tmps.getD 23 undef, a'.tmps.getD 24 undef, a'.tmps.getD 25 undef, a'.tmps.getD 26 undef, a'.tmps.getD 27 undef, a'.tmps.getD 28 undef, a'.tmps.getD 29 undef, a'.tmps.getD 30 undef, a'.tmps.getD 31 undef, a'.tmps.getD 32 undef, a'.tmps.getD 33 undef, a'.tmps.getD 34 undef, a'.tmps.getD 35 undef, a'.tmps.getD 36 undef, a'.tmps.getD 37 undef, a'.tmps.getD 38 undef, a'.tmps.getD 39 undef, a'.tmps.getD 40 undef, a'.tmps.getD 41 undef, a'.tmps.getD 42 undef, a'.tmps.getD 43 undef, a'.tmps.getD 44 undef, a'.tmps.getD 45 undef, a'.tmps.getD 46 undef, a'.tmps.getD 47 undef, a'.tmps.getD 48 undef, a'.tmps.getD 49 undef, a'.tmps.getD 50 undef, a'.tmps.getD 51 undef, a'.tmps.getD 52 undef, a'.tmps.getD 53 undef, a'.tmps.getD 54 undef, a'.tmps.getD 55 undef, a'.tmps.getD 56 undef, a'.tmps.getD 57 undef, a'.tmps.getD 58 undef, a'.tmps.getD 59 undef, a'.tmps.getD 60 undef, a'.tmps.getD 61 undef, a'.tmps.getD 62 undef, a'.tmps.getD 63 undef, a'.tmps.getD 64 undef, a'.tmps.getD 65 undef, a'.tmps.getD 66 undef, a'.tmps.getD 67 undef, a'.tmps.getD 68 undef], defers := [] }) (h0 : k ≤ s.size) (h1 : Hid (Inv s.data.toList k all acc)) (h2 : Hid (w'.ownsRow w.heap.size 39 2 lv acc.length (flatF acc))) (h3 : Hid (Below w.heap.size w w')) : Jfield s w a' w' :=
  ⟨k, lv, acc, all, fun i => a'.tmps.getD i undef, ha, h0, h1, h2, h3⟩
/-- .. and at its label 'more'. -/
def Jmore (s : ByteArray) (w : World) (a' : Act) (w' : World) : Prop :=
  ∃ (k z b : Nat) (lv : Value) (acc : List Fld) (all : List (List UInt8 × List UInt8)) (n piece bs : List UInt8) (wb : World) (u : Nat → Value), a' = { tmps := #[.string s, undef, .slice none 0 0, .int .i64 0, lv, .int .i64 k, u 6, .int .i64 (z : Int), .string (bts n), .string (bts piece), u 10, .pointer (some ⟨b, 0, none⟩), u 12, u 13, u 14, u 15, u 16, u 17, u 18, u 19, u 20, u 21, u 22, u 23, u 24, u 25, u 26, u 27, u 28, u 29, u 30, u 31, u 32, u 33, u 34, u 35, u 36, u 37, u 38, u 39, u 40, u 41, u 42, u 43, u 44, u 45, u 46, u 47, u 48, u 49, u 50, u 51, u 52, u 53, u 54, u 55, u 56, u 57, u 58, u 59, u 60, u 61, u 62, u 63, u 64, u 65, u 66, u 67, u 68], defers := [] } ∧ k + z ≤ s.size ∧ 1 ≤ z ∧ bs.length + piece.length ≤ k + z ∧ n.length ≤ s.size ∧ Hid (Inv1 s.data.toList (k + z) all acc n (bs ++ piece)) ∧ Hid (Lib.IsBuilderF 65 5 b b (Lib.byteCells bs) w') ∧ wb.heap.size = b ∧ Hid (wb.ownsRow w.heap.size 39 2 lv acc.length (flatF acc)) ∧ Hid (Below b wb w') ∧ Hid (Below w.heap.size w wb)
theorem Jmore.mk {s : ByteArray} {w : World} {a' : Act} {w' : World} (k z b : Nat) (lv : Value) (acc : List Fld) (all : List (List UInt8 × List UInt8)) (n piece bs : List UInt8) (wb : World)
    (ha : a' = { tmps := #[.string s, undef, .slice none 0 0, .int .i64 0, lv, .int .i64 k, a'.tmps.getD 6 undef, .int .i64 (z : Int), .string (bts n), .string (bts piece), a'.tmps.getD 10 undef, .pointer (some ⟨b, 0, none⟩), a'.tmps.getD 12 undef, a'.tmps.getD 13 undef, a'.tmps.getD 14 undef, a'.tmps.getD 15 undef, a'.tmps.getD 16 undef, a'.tmps.getD 17 undef, a'.tmps.getD 18 undef, a'.tmps.getD 19 undef, a'.tmps.getD 20 undef, a'.tmps.getD 21 undef, a'.tmps.getD 22 undef, a'.tmps.getD 23 undef, a'.tmps.getD 24 undef, a'.tmps.getD 25 undef, a'.tmps.getD 26 undef, a'.tmps.getD 27 undef, a'.tmps.getD 28 undef, a'.tmps.getD 29 undef, a'.tmps.getD 30 undef, a'.tmps.getD 31 undef, a'.tmps.getD 32 undef, a'.tmps.getD 33 undef, a'.tmps.getD 34 undef, a'.tmps.getD 35 undef, a'.tmps.getD 36 undef, a'.tmps.getD 37 undef, a'.tmps.getD 38 undef, a'.tmps.getD 39 undef, a'.tmps.getD 40 undef, a'.tmps.getD 41 undef, a'.tmps.getD 42 undef, a'.tmps.getD 43 undef, a'.tmps.getD 44 undef, a'.tmps.getD 45 undef, a'.tmps.getD 46 undef, a'.tmps.getD 47 undef, a'.tmps.getD 48 undef, a'.tmps.getD 49 undef, a'.tmps.getD 50 undef, a'.tmps.getD 51 undef, a'.tmps.getD 52 undef, a'.tmps.getD 53 undef, a'.tmps.getD 54 undef, a'.tmps.getD 55 undef, a'.tmps.getD 56 undef, a'.tmps.getD 57 undef, a'.tmps.getD 58 undef, a'.tmps.getD 59 undef, a'.tmps.getD 60 undef, a'.tmps.getD 61 undef, a'.tmps.getD 62 undef, a'.tmps.getD 63 undef, a'.tmps.getD 64 undef, a'.tmps.getD 65 undef, a'.tmps.getD 66 undef, a'.tmps.getD 67 undef, a'.tmps.getD 68 undef], defers := [] }) (h0 : k + z ≤ s.size) (h1 : 1 ≤ z) (h2 : bs.length + piece.length ≤ k + z) (h3 : n.length ≤ s.size) (h4 : Hid (Inv1 s.data.toList (k + z) all acc n (bs ++ piece))) (h5 : Hid (Lib.IsBuilderF 65 5 b b (Lib.byteCells bs) w')) (h6 : wb.heap.size = b) (h7 : Hid (wb.ownsRow w.heap.size 39 2 lv acc.length (flatF acc))) (h8 : Hid (Below b wb w')) (h9 : Hid (Below w.heap.size w wb)) : Jmore s w a' w' :=
  ⟨k, z, b, lv, acc, all, n, piece, bs, wb, fun i => a'.tmps.getD i undef, ha, h0, h1, h2, h3, h4, h5, h6, h7, h8, h9⟩
/-- How much is left. -/
def leftP (s : ByteArray) (a' : Act) (_ : World) : Nat := s.size - (intOf (a'.tmps.getD 5 undef)).toNat

theorem rowF_of_own {w : World} {B : Nat} {v : Value} {l : List Fld} (h : w.ownsRow B 39 2 v l.length (flatF l)) (h6 : l.length ≤ 4194304) (hn : ∀ f ∈ l, Fits f) : RowF w v l := by
  rcases h.2 with ⟨hv, h0⟩ | ⟨g, cap, cur, hv, hg, hh, hn', hm, hs, ht⟩
  · have : l = [] := List.eq_nil_of_length_eq_zero h0
    subst this
    exact ⟨none, 0, by rw [hv]; rfl, h6, hn, Or.inl rfl⟩
  · refine ⟨some ⟨g, 0, none⟩, cap, hv, h6, hn, Or.inr ⟨g, 0, rfl, (Array.getElem?_eq_some_iff.1 hh).1, fun j u hj => ?_⟩⟩
    have hjl : j < l.length * 2 := by
      rcases Nat.lt_or_ge j (flatF l).length with h | h
      · rwa [flatF_length] at h
      · rw [List.getElem?_eq_none h] at hj; simp at hj
    rw [← ht, List.getElem?_take, if_pos hjl] at hj
    simp only [World.cell?, hh]
    simpa using hj

theorem goes_first {L : ByteArray} {l : List UInt8} (h : L.data.toList = l) (h0 : 0 < L.size) : isB L[0] = goesOn l := by
  have := drop_byte L 0 h0
  rw [List.drop_zero, h] at this
  rw [this]
  rfl
theorem inv1_go {s : List UInt8} {k : Nat} {all : List (List UInt8 × List UInt8)} {acc : List Fld} {n x : List UInt8} (h : Inv1 s k all acc n x) (hg : goesOn (lineOf (s.drop k)) = true) :
    Inv1 s (k + lineN (s.drop k)) all acc n (x ++ lineOf (s.drop k)) := by
  have e := contL_go hg
  rw [List.drop_drop] at e
  refine ⟨?_, ?_, h.kept, h.len, h.fits⟩
  · rw [← h.flds, e]
    simp only [List.append_assoc, Nat.add_assoc]
  · rw [← h.body, e]
    simp only [Nat.add_assoc]
theorem inv1_stop {s : List UInt8} {k : Nat} {all : List (List UInt8 × List UInt8)} {acc acc' : List Fld} {n x : List UInt8} (h : Inv1 s k all acc n x) (hg : goesOn (lineOf (s.drop k)) = false)
    (hk : acc'.map lst = (all ++ [(n, trimL x)]).take 1024) (hl : acc'.length ≤ 1024) (hf : ∀ f ∈ acc', Fits f) : Inv s k (all ++ [(n, trimL x)]) acc' := by
  have e := contL_stop hg
  refine ⟨?_, ?_, hk, hl, hf⟩
  · rw [← h.flds, e]
    simp
  · rw [← h.body, e]
    simp
theorem kept_more {all : List (List UInt8 × List UInt8)} {acc : List Fld} {f : Fld} (h : acc.map lst = all.take 1024) (hl : acc.length < 1024) : (acc ++ [f]).map lst = (all ++ [lst f]).take 1024 := by
  have hal : all.length < 1024 := by
    have := congrArg List.length h
    simp at this
    omega
  rw [List.take_of_length_le (by omega)] at h
  rw [List.take_of_length_le (by simp; omega), List.map_append, h]
  rfl
theorem kept_full {all : List (List UInt8 × List UInt8)} {acc : List Fld} {x : List UInt8 × List UInt8} (h : acc.map lst = all.take 1024) (hl : ¬ acc.length < 1024) : acc.map lst = (all ++ [x]).take 1024 := by
  have hal : 1024 ≤ all.length := by
    have := congrArg List.length h
    simp at this
    omega
  rw [h, List.take_append_of_le_length hal]
theorem two_cells (w : World) (x y : Value) (t : TypeId) : ∀ j u, [x, y][j]? = some u → (w.alloc (.cells #[x, y] t)).cell? (Addr.add ⟨w.heap.size, 0, none⟩ j) = some u := by
  intro j u hj
  match j, hj with
  | 0, hj => simp at hj; subst hj; simp [Addr.add]
  | 1, hj => simp at hj; subst hj; simp [Addr.add]

end Go.Proofs.YtdallfakfhajdaaGreatDoor

/-
  What head.Parse does, over this seat's program: a header's fields, and where the body begins.
-/
set_option linter.unusedVariables false
namespace Go.Proofs.YtdallfakfhajdaaGreatDoor
open Go.RowKit Go.Proofs.Hed

set_option maxHeartbeats 40000000 in
set_option maxRecDepth 100000 in
/-- head.Parse tells the fields, and where the body begins. -/
theorem parse_any (s : ByteArray) (w : World) (hs : s.size ≤ 16777216) :
    Calls Tryz.prog 23 #[.string s] w fun e w' => ∃ v l, e = .returned (.tuple #[v, .int .i64 ((parseL s.data.toList).2 : Int)]) ∧ RowF w' v l ∧ l.map lst = (parseL s.data.toList).1.take 1024 ∧ Below w.heap.size w w' := by
  have hsl := sizeL s
  have HF0 := hide (firstLine_any s w (by omega))
  go_enter Tryz.func23, Tryz.ntmps23
  go_wp2
  refine wp_scope_both 0 1 (by decide) (Jfield s w) (Jmore s w) (leftP s) rfl rfl ?_ ?_ ?_
  · intro hp
    go_wp2_with fail
    refine (unhide HF0).mono ?_
    rintro e w1 ⟨rfl, rfl⟩
    go_wp2
    go_step3
    rename_i K hK
    refine hK _ _ (hp _ _ (Jfield.mk 0 (.slice none 0 0) [] [] rfl (Nat.zero_le _) (hide ⟨rfl, Nat.zero_add _, rfl, by simp, by simp⟩) (hide ⟨rfl, Or.inl ⟨rfl, rfl⟩⟩) (hide (Below.refl _ _))))
  · rintro a' w' hp1 ⟨k, lv, acc, all, u, rfl, hk, HI, HO, HB⟩
    have HP1 := hide hp1
    clear hp1
    have hdl : (s.data.toList.drop k).length = s.size - k := by rw [List.length_drop, hsl]
    have hln := lineN_le (s.data.toList.drop k)
    have hlo := lineOf_len (s.data.toList.drop k)
    have HCT := hide (fun W => cut_any (bts (lineOf (s.data.toList.drop k))) W (by rw [size_bts]; omega))
    rw [toList_bts] at HCT
    have HROW := hide (fun (W : World) (h : W.ownsRow w.heap.size 39 2 lv acc.length (flatF acc)) => rowF_of_own h (by have := (unhide HI).len; omega) (unhide HI).fits)
    by_cases h0 : lineOf (s.data.toList.drop k) = []
    · have hz := parseL_end h0
      have hI := unhide HI
      have hf := hI.flds
      have hb := hI.body
      rw [hz] at hf hb
      simp only [List.append_nil] at hf
      simp only at hb
      have HFL := hide hf
      have HBD := hide hb
      rw [h0] at HCT ⊢
      have he : (bts []).toList.isEmpty = true := by rw [empty_size, size_bts]; rfl
      have hcn : colon [] = none := rfl
      rw [hcn] at HCT
      simp only at HCT
      generalize lineN (s.data.toList.drop k) = z at *
      clear hf hb hz hI h0 hlo hcn
      go_wp2_with fail
      refine (unhide HCT _).mono ?_
      rintro e w2 ⟨rfl, q, rfl⟩
      go_wp2
      simp only [jumpTwo]
      go_ret2
      refine ⟨lv, acc, ?_, unhide HROW _ (unhide HO), by rw [(unhide HI).kept, unhide HFL], below_drewN (unhide HB) _⟩
      rw [← unhide HBD]
      go_num
    · have he : (bts (lineOf (s.data.toList.drop k))).toList.isEmpty = false := by
        rw [empty_size, size_bts]
        exact decide_eq_false (fun h => h0 (List.eq_nil_of_length_eq_zero h))
      cases hc : colon (lineOf (s.data.toList.drop k)) with
      | none =>
        have hz := parseL_none h0 hc
        have hI := unhide HI
        have hf := hI.flds
        have hb := hI.body
        rw [hz] at hf hb
        simp only [List.append_nil] at hf
        simp only [Nat.add_zero] at hb
        have HFL := hide hf
        have HBD := hide hb
        rw [hc] at HCT
        simp only at HCT
        generalize lineN (s.data.toList.drop k) = z at *
        generalize bts (lineOf (s.data.toList.drop k)) = line at *
        clear hf hb hz hI h0 hlo hc
        go_wp2_with fail
        refine (unhide HCT _).mono ?_
        rintro e w2 ⟨rfl, q, rfl⟩
        go_wp2
        simp only [jumpTwo]
        go_ret2
        refine ⟨lv, acc, ?_, unhide HROW _ (unhide HO), by rw [(unhide HI).kept, unhide HFL], below_drewN (unhide HB) _⟩
        rw [← unhide HBD]
        rfl
      | some p =>
        obtain ⟨n, x⟩ := p
        have hcl := colon_len hc
        have HNM := hide (fun W => isName_any (bts n) W (by rw [size_bts]; omega))
        rw [toList_bts] at HNM
        rw [hc] at HCT
        simp only at HCT
        cases hn : isNm n with
        | false =>
          have hz := parseL_no h0 hc hn
          have hI := unhide HI
          have hf := hI.flds
          have hb := hI.body
          rw [hz] at hf hb
          simp only [List.append_nil] at hf
          simp only [Nat.add_zero] at hb
          have HFL := hide hf
          have HBD := hide hb
          rw [hn] at HNM
          generalize lineN (s.data.toList.drop k) = z at *
          generalize bts (lineOf (s.data.toList.drop k)) = line at *
          clear hf hb hz hI h0 hlo hc hcl hn
          go_wp2_with fail
          refine (unhide HCT _).mono ?_
          rintro e w2 ⟨rfl, q, rfl⟩
          go_wp2_with fail
          refine (unhide HNM _).mono ?_
          rintro e w3 ⟨rfl, rfl⟩
          go_wp2
          simp only [jumpTwo]
          go_ret2
          refine ⟨lv, acc, ?_, unhide HROW _ (unhide HO), by rw [(unhide HI).kept, unhide HFL], below_drewN (unhide HB) _⟩
          rw [← unhide HBD]
          rfl
        | true =>
          have hz := parseL_field h0 hc hn
          have hI := unhide HI
          have hf := hI.flds
          have hb := hI.body
          rw [hz] at hf hb
          simp only [List.drop_drop] at hf hb
          have hlp := lineN_pos (line_ne h0)
          rw [hn] at HNM
          have HI1 : Hid (Inv1 s.data.toList (k + lineN (s.data.toList.drop k)) all acc n ([] ++ x)) := hide ⟨by
            rw [← hf, List.nil_append, Nat.add_assoc], by rw [← hb]; simp only [Nat.add_assoc], hI.kept, hI.len, hI.fits⟩
          have hkz : k + lineN (s.data.toList.drop k) ≤ s.size := by omega
          have hxl : ([] : List UInt8).length + x.length ≤ k + lineN (s.data.toList.drop k) := by simp; omega
          have hnl : n.length ≤ s.size := by omega
          generalize lineN (s.data.toList.drop k) = z at *
          generalize bts (lineOf (s.data.toList.drop k)) = line at *
          clear hf hb hz hI h0 hlo hc hcl hn
          go_wp2_with fail
          refine (unhide HCT _).mono ?_
          rintro e w2 ⟨rfl, q, rfl⟩
          go_wp2_with fail
          refine (unhide HNM _).mono ?_
          rintro e w3 ⟨rfl, rfl⟩
          go_wp2
          go_step3
          rename_i K hK
          refine hK _ _ (unhide HP1 _ _ (Jmore.mk k z w'.heap.size lv acc all n x [] (w'.drewN q) rfl hkz hlp hxl hnl HI1 (hide (Lib.IsBuilderF.of (Lib.fresh_isBuilder 65 5 (w'.drewN q)))) rfl HO (hide (show Below (w'.drewN q).heap.size (w'.drewN q) _ from (Below.refl _ _).alloc (Nat.le_refl _) _)) (hide (below_drewN (unhide HB) _))) (Nat.le_refl _))
  · rintro a' w' ⟨k, z, b, lv, acc, all, n, piece, bs, wb, u, rfl, hkz, hz1, hbl, hnl, HI, HBU, hwb, HO, HBB, HBW⟩
    have HWS := hide (writeString_k b b bs (bts piece) w' (unhide HBU) (by rw [size_bts]; omega) (by have := (unhide HBB).size; omega))
    rw [toList_bts] at HWS
    have S1 := fun W => slice_from s ((k : Int) + (z : Int)) (k + z) (by omega) hkz W
    have HFL := hide (fun W => firstLine_any (s.extract (k + z) s.size) W (by rw [size_part s (k + z) s.size (Nat.le_refl _)]; omega))
    rw [toList_from] at HFL
    generalize s.extract (k + z) s.size = sx at S1 HFL
    have hdl : (s.data.toList.drop (k + z)).length = s.size - (k + z) := by rw [List.length_drop, hsl]
    have hln := lineN_le (s.data.toList.drop (k + z))
    have hlo := lineOf_len (s.data.toList.drop (k + z))
    rw [hdl] at hln
    obtain ⟨L, hL⟩ : ∃ L, lineOf (s.data.toList.drop (k + z)) = L := ⟨_, rfl⟩
    obtain ⟨z2, hz2⟩ : ∃ z2, lineN (s.data.toList.drop (k + z)) = z2 := ⟨_, rfl⟩
    rw [hL, hz2] at HFL hlo
    rw [hz2] at hln
    have HLZ := hide (And.intro hL hz2)
    have HNUM := hide (And.intro hkz (And.intro hz1 (And.intro hbl (And.intro hnl (And.intro hln (And.intro hlo (And.intro hwb hs)))))))
    have hkb : (k : Int) + (z : Int) ≤ 16777216 := by omega
    clear hL hz2 hkz hz1 hbl hnl hln hlo hwb hs hdl hsl HBU
    go_wp2_with fail
    refine (unhide HWS).mono ?_
    rintro e w2 ⟨rfl, hbu2, b2⟩
    have HBU2 := hide hbu2
    have HBB2 := hide ((unhide HBB).trans b2)
    clear hbu2 b2 HWS HBB
    go_wp2_with fail
    refine (unhide HFL _).mono ?_
    rintro e w2 ⟨rfl, rfl⟩
    clear HFL S1
    cases hg : goesOn L with
    | true =>
      obtain ⟨c, r, rfl⟩ : ∃ c r, L = c :: r := by
        cases L with
        | nil => cases hg
        | cons c r => exact ⟨c, r, rfl⟩
      have hg' : isB c = true := hg
      obtain ⟨X, hX⟩ : ∃ X, bts (c :: r) = X := ⟨_, rfl⟩
      have hXs : 0 < X.size := by rw [← hX, size_bts]; simp
      have hXl : X.data.toList = c :: r := by rw [← hX, toList_bts]
      have hXc : isB X[0] = true := by rw [goes_first hXl hXs]; exact hg
      have hemp : X.toList.isEmpty = false := by rw [empty_size]; exact decide_eq_false (by omega)
      have HBL := hide (fun W => isBlank_any X[0] W)
      rw [hXc] at HBL
      have hgg : goesOn (lineOf (s.data.toList.drop (k + z))) = true := by rw [(unhide HLZ).1]; exact hg
      have hI2 := inv1_go (unhide HI) hgg
      rw [(unhide HLZ).1, (unhide HLZ).2] at hI2
      have hz2p := lineN_pos (goes_ne hgg)
      rw [(unhide HLZ).2] at hz2p
      have HI2 := hide hI2
      have HZP := hide hz2p
      have HXX := hide hX
      rw [hX]
      have hxs' : (0 : Int) < (X.size : Int) := by omega
      clear hX hg hg' hgg hI2 hz2p hXc hXl
      go_wp2_with fail
      refine (unhide HBL _).mono ?_
      rintro e w2 ⟨rfl, rfl⟩
      go_wp2
      go_step3
      obtain ⟨q1, q2, q3, q4, q5, q6, q7, q8⟩ := unhide HNUM
      refine Or.inr ⟨rfl, Jmore.mk (k + z) z2 b lv acc all n (c :: r) (bs ++ piece) wb ?_ (by omega) (unhide HZP) (by rw [List.length_append]; omega) q4 HI2 HBU2 q7 HO HBB2 HBW, ?_⟩
      · rw [show ((k + z : Nat) : Int) = (k : Int) + (z : Int) by omega, unhide HXX]
        rfl
      · simp only [leftP]
        simp [intOf]
        omega
    | false =>
      obtain ⟨la, lc, rfl⟩ : ∃ la lc, lv = .slice la acc.length lc := by
        rcases (unhide HO).2 with ⟨hv, h0⟩ | ⟨g, cap, cur, hv, _⟩
        · exact ⟨none, 0, by rw [hv, h0]⟩
        · exact ⟨_, _, hv⟩
      have hI := unhide HI
      have hacl := hI.len
      have hgg : goesOn (lineOf (s.data.toList.drop (k + z))) = false := by rw [(unhide HLZ).1]; exact hg
      obtain ⟨q1, q2, q3, q4, q5, q6, q7, q8⟩ := unhide HNUM
      have htl := trimL_len (bs ++ piece)
      rw [List.length_append] at htl
      have HCL := hide (fun W => cloneS_any (bts n) W (by rw [size_bts]; omega))
      have HTR := hide (fun W => trim_any ⟨(bs ++ piece).toArray⟩ W (by show (bts (bs ++ piece)).size ≤ _; rw [size_bts, List.length_append]; omega))
      rw [show (ByteArray.mk (bs ++ piece).toArray).data.toList = bs ++ piece from toList_bts _] at HTR
      have hfit : Fits (bts n, bts (trimL (bs ++ piece))) := ⟨by show (bts n).size ≤ _; rw [size_bts]; omega, by show (bts (trimL (bs ++ piece))).size ≤ _; rw [size_bts]; omega⟩
      obtain ⟨X, hX⟩ : ∃ X, bts L = X := ⟨_, rfl⟩
      have hXs : X.size = L.length := by rw [← hX, size_bts]
      have hXl : X.data.toList = L := by rw [← hX, toList_bts]
      have HXX := hide hX
      rw [hX]
      obtain ⟨i0, hi, hz0, hzz1, hz2⟩ := info_parts fldInfo
      clear q1 q2 q3 q4 q5 q6 q7 q8 hX htl
      by_cases hlen : acc.length < 1024
      · have hinv : Inv s.data.toList (k + z) (all ++ [(n, trimL (bs ++ piece))]) (acc ++ [(bts n, bts (trimL (bs ++ piece)))]) := inv1_stop hI hgg (by
          have := kept_more (f := (bts n, bts (trimL (bs ++ piece)))) hI.kept hlen
          rw [this]
          simp only [lst, toList_bts]) (by simp; omega) (by
          intro f hf
          rw [List.mem_append, List.mem_singleton] at hf
          rcases hf with hf | rfl
          · exact hI.fits f hf
          · exact hfit)
        have HIY := hide hinv
        have hlen' : (acc.length : Int) < 1024 := by omega
        clear hinv hI hgg hfit hacl
        by_cases hL0 : X.size = 0
        · have hemp : X.toList.isEmpty = true := by rw [empty_size]; exact decide_eq_true hL0
          clear hXs hXl hg hL0
          go_wp2_with fail
          refine (unhide HCL _).mono ?_
          rintro e w4 ⟨rfl, b4⟩
          have hz3 : b ≤ w2.heap.size := by have := (unhide HBB2).size; have := (unhide HNUM).2.2.2.2.2.2.1; omega
          have HBU4 := hide (isB_below (unhide HBU2) b4)
          have HBB4 := hide ((unhide HBB2).trans (b4.mono hz3))
          have HZ4 : Hid (b ≤ w4.heap.size) := hide (by have := (unhide HBB4).size; have := (unhide HNUM).2.2.2.2.2.2.1; omega)
          clear b4 hz3 HBU2 HBB2 HCL
          go_wp2_with fail
          refine (Tryz.Builder_String_any_k b b (bs ++ piece) w4 (unhide HBU4) (unhide HZ4)).mono ?_
          rintro e w5 ⟨rfl, _, b5, _⟩
          have HBB5 := hide ((unhide HBB4).trans b5)
          clear b5 HBU4 HBB4 HZ4
          go_wp2_with fail
          refine (unhide HTR _).mono ?_
          rintro e w6 ⟨rfl, b6⟩
          have hbb6 : Below b wb w6 := (unhide HBB5).trans (b6.mono (by have := (unhide HBB5).size; have := (unhide HNUM).2.2.2.2.2.2.1; omega))
          have hwb := (unhide HNUM).2.2.2.2.2.2.1
          have hown6 := own_below (unhide HO) (by rw [hwb]; exact hbb6)
          have hbw6 : Below w.heap.size w w6 := (unhide HBW).trans (hbb6.mono (by have := (unhide HBW).size; omega))
          have hz6 := hbw6.size
          have HB6 := hide hbw6
          clear b6 hbb6 hbw6 HBB5 HTR hwb
          go_wp2_with (at_builtin; refine wpList_append_own _ rfl _ _ 40 rfl w.heap.size 39 i0 (.agg #[.string ByteArray.empty, .string ByteArray.empty]) 2 32 Tryz.underlying40 hi hz0 hzz1 hz2 rfl (by decide) _ _ _ rfl (hown6.alloc _) ⟨w6.heap.size, 0, none⟩ 1 1 [.string (bts n), .string (bts (trimL (bs ++ piece)))] rfl rfl (two_cells _ _ _ _) (by intro u hu; simp at hu; rcases hu with rfl | rfl <;> rfl) (by unfold maxLen; omega) (by omega) (by simp; omega) ?_)
          intro v' w7 hown7 hgrow _
          have HB7 := hide (own_up hown6 hgrow (unhide HB6) hz6)
          have HO7 := hide hown7
          clear hown6 hown7 hgrow
          go_wp2
          go_step3
          obtain ⟨q1, q2, q3, q4, q5, q6, q7, q8⟩ := unhide HNUM
          refine Or.inl ⟨rfl, Jfield.mk (k + z) v' (acc ++ [(bts n, bts (trimL (bs ++ piece)))]) (all ++ [(n, trimL (bs ++ piece))]) ?_ q1 HIY ?_ HB7, ?_⟩
          · rw [show ((k + z : Nat) : Int) = (k : Int) + (z : Int) by omega, (unhide HLZ).1, (unhide HLZ).2, unhide HXX]
            rfl
          · have h7 := unhide HO7
            rw [show flatF acc ++ [.string (bts n), .string (bts (trimL (bs ++ piece)))] = flatF (acc ++ [(bts n, bts (trimL (bs ++ piece)))]) by rw [flatF_append]; rfl] at h7
            exact hide (by simpa using h7)
          · simp only [leftP]
            simp [intOf]
            omega
        · have hemp : X.toList.isEmpty = false := by rw [empty_size]; exact decide_eq_false hL0
          have hL1 : 0 < X.size := by omega
          have HBL := hide (fun W => isBlank_any X[0] W)
          rw [goes_first hXl hL1, hg] at HBL
          have hl0 : (0 : Int) < (X.size : Int) := by omega
          clear hXs hXl hg hL0
          go_wp2_with fail
          refine (unhide HBL _).mono ?_
          rintro e w2 ⟨rfl, rfl⟩
          go_wp2_with fail
          refine (unhide HCL _).mono ?_
          rintro e w4 ⟨rfl, b4⟩
          have hz3 : b ≤ w2.heap.size := by have := (unhide HBB2).size; have := (unhide HNUM).2.2.2.2.2.2.1; omega
          have HBU4 := hide (isB_below (unhide HBU2) b4)
          have HBB4 := hide ((unhide HBB2).trans (b4.mono hz3))
          have HZ4 : Hid (b ≤ w4.heap.size) := hide (by have := (unhide HBB4).size; have := (unhide HNUM).2.2.2.2.2.2.1; omega)
          clear b4 hz3 HBU2 HBB2 HCL
          go_wp2_with fail
          refine (Tryz.Builder_String_any_k b b (bs ++ piece) w4 (unhide HBU4) (unhide HZ4)).mono ?_
          rintro e w5 ⟨rfl, _, b5, _⟩
          have HBB5 := hide ((unhide HBB4).trans b5)
          clear b5 HBU4 HBB4 HZ4
          go_wp2_with fail
          refine (unhide HTR _).mono ?_
          rintro e w6 ⟨rfl, b6⟩
          have hbb6 : Below b wb w6 := (unhide HBB5).trans (b6.mono (by have := (unhide HBB5).size; have := (unhide HNUM).2.2.2.2.2.2.1; omega))
          have hwb := (unhide HNUM).2.2.2.2.2.2.1
          have hown6 := own_below (unhide HO) (by rw [hwb]; exact hbb6)
          have hbw6 : Below w.heap.size w w6 := (unhide HBW).trans (hbb6.mono (by have := (unhide HBW).size; omega))
          have hz6 := hbw6.size
          have HB6 := hide hbw6
          clear b6 hbb6 hbw6 HBB5 HTR hwb
          go_wp2_with (at_builtin; refine wpList_append_own _ rfl _ _ 40 rfl w.heap.size 39 i0 (.agg #[.string ByteArray.empty, .string ByteArray.empty]) 2 32 Tryz.underlying40 hi hz0 hzz1 hz2 rfl (by decide) _ _ _ rfl (hown6.alloc _) ⟨w6.heap.size, 0, none⟩ 1 1 [.string (bts n), .string (bts (trimL (bs ++ piece)))] rfl rfl (two_cells _ _ _ _) (by intro u hu; simp at hu; rcases hu with rfl | rfl <;> rfl) (by unfold maxLen; omega) (by omega) (by simp; omega) ?_)
          intro v' w7 hown7 hgrow _
          have HB7 := hide (own_up hown6 hgrow (unhide HB6) hz6)
          have HO7 := hide hown7
          clear hown6 hown7 hgrow
          go_wp2
          go_step3
          obtain ⟨q1, q2, q3, q4, q5, q6, q7, q8⟩ := unhide HNUM
          refine Or.inl ⟨rfl, Jfield.mk (k + z) v' (acc ++ [(bts n, bts (trimL (bs ++ piece)))]) (all ++ [(n, trimL (bs ++ piece))]) ?_ q1 HIY ?_ HB7, ?_⟩
          · rw [show ((k + z : Nat) : Int) = (k : Int) + (z : Int) by omega, (unhide HLZ).1, (unhide HLZ).2, unhide HXX]
            rfl
          · have h7 := unhide HO7
            rw [show flatF acc ++ [.string (bts n), .string (bts (trimL (bs ++ piece)))] = flatF (acc ++ [(bts n, bts (trimL (bs ++ piece)))]) by rw [flatF_append]; rfl] at h7
            exact hide (by simpa using h7)
          · simp only [leftP]
            simp [intOf]
            omega
      · have hinv : Inv s.data.toList (k + z) (all ++ [(n, trimL (bs ++ piece))]) acc := inv1_stop hI hgg (kept_full hI.kept hlen) hI.len hI.fits
        have HIN := hide hinv
        have hlen' : ¬ (acc.length : Int) < 1024 := by omega
        clear hinv hI hgg hfit hacl HCL HTR
        by_cases hL0 : X.size = 0
        · have hemp : X.toList.isEmpty = true := by rw [empty_size]; exact decide_eq_true hL0
          clear hXs hXl hg hL0
          have hwb := (unhide HNUM).2.2.2.2.2.2.1
          have hbb2 := unhide HBB2
          have hown6 := own_below (unhide HO) (by rw [hwb]; exact hbb2)
          have HO7 := hide hown6
          have HB7 := hide ((unhide HBW).trans (hbb2.mono (by have := (unhide HBW).size; omega)))
          clear hbb2 hown6 hwb
          go_wp2
          go_step3
          obtain ⟨q1, q2, q3, q4, q5, q6, q7, q8⟩ := unhide HNUM
          refine Or.inl ⟨rfl, Jfield.mk (k + z) (.slice la acc.length lc) acc (all ++ [(n, trimL (bs ++ piece))]) ?_ q1 HIN HO7 HB7, ?_⟩
          · rw [show ((k + z : Nat) : Int) = (k : Int) + (z : Int) by omega, (unhide HLZ).1, (unhide HLZ).2, unhide HXX]
            rfl
          · simp only [leftP]
            simp [intOf]
            omega
        · have hemp : X.toList.isEmpty = false := by rw [empty_size]; exact decide_eq_false hL0
          have hL1 : 0 < X.size := by omega
          have HBL := hide (fun W => isBlank_any X[0] W)
          rw [goes_first hXl hL1, hg] at HBL
          have hl0 : (0 : Int) < (X.size : Int) := by omega
          clear hXs hXl hg hL0
          go_wp2_with fail
          refine (unhide HBL _).mono ?_
          rintro e w2 ⟨rfl, rfl⟩
          have hwb := (unhide HNUM).2.2.2.2.2.2.1
          have hbb2 := unhide HBB2
          have hown6 := own_below (unhide HO) (by rw [hwb]; exact hbb2)
          have HO7 := hide hown6
          have HB7 := hide ((unhide HBW).trans (hbb2.mono (by have := (unhide HBW).size; omega)))
          clear hbb2 hown6 hwb
          go_wp2
          go_step3
          obtain ⟨q1, q2, q3, q4, q5, q6, q7, q8⟩ := unhide HNUM
          refine Or.inl ⟨rfl, Jfield.mk (k + z) (.slice la acc.length lc) acc (all ++ [(n, trimL (bs ++ piece))]) ?_ q1 HIN HO7 HB7, ?_⟩
          · rw [show ((k + z : Nat) : Int) = (k : Int) + (z : Int) by omega, (unhide HLZ).1, (unhide HLZ).2, unhide HXX]
            rfl
          · simp only [leftP]
            simp [intOf]
            omega

end Go.Proofs.YtdallfakfhajdaaGreatDoor
