/-
  What strings.Trim and head.Parse do, over this seat's program: a header's fields, and where the body begins.
-/
import Derived.Test.YtedpimhhbajljaaGreatDoorHss
import Derived.ScopeJumps
import Derived.WalkMore
import Derived.Shelf.Strings.SlTrimAscii
set_option linter.unusedVariables false
namespace Go.Proofs.YtedpimhhbajljaaGreatDoor
open Go.RowKit Go.Proofs.Hed

theorem trim_lib (l : List UInt8) : Lib.trimS l [32, 9] = trimL l := by
  have e : (fun b : UInt8 => ([32, 9] : List UInt8).contains b) = isB := by
    funext b
    show List.elem b [32, 9] = (b == 32 || b == 9)
    simp only [List.elem]
    cases (b == 32) <;> cases (b == 9) <;> rfl
  unfold Lib.trimS Lib.trimLeftS Lib.trimRightS trimL
  simp only [e]
theorem trim_any (s : ByteArray) (w : World) (hs : s.size ≤ 16777216) :
    Calls Tryz.prog 11 #[.string s, .string ⟨#[32, 9]⟩] w fun e w' => e = .returned (.string (bts (trimL s.data.toList))) ∧ Below w.heap.size w w' := by
  have h := Any.strings_Trim_laid Tryz.lays160 (by kernel_rfl) s ⟨#[32, 9]⟩ w (by omega) (by decide) (ascii_of_all (by decide))
  rw [show (⟨#[32, 9]⟩ : ByteArray).data.toList = [32, 9] from rfl, trim_lib] at h
  exact h
theorem trimL_len (l : List UInt8) : (trimL l).length ≤ l.length := by
  unfold trimL
  have h1 := (List.dropWhile_sublist (p := isB) (l := (l.reverse.dropWhile isB).reverse)).length_le
  have h2 := (List.dropWhile_sublist (p := isB) (l := l.reverse)).length_le
  simp at h1 h2
  omega

/-- A goto to label l0: J0; to label l1: J1; to any other: no way out. -/
def jumpTwo (l0 l1 : Nat) (J0 J1 : Act → World → Prop) (Q : Exit → Act → World → Prop) : Exit → Act → World → Prop
  | .goto l', a, w => (l' = l0 ∧ J0 a w) ∨ (l' = l1 ∧ J1 a w)
  | e, a, w => Q e a w

section
variable {P : Program} {a : Act} {w : World} {Q : Exit → Act → World → Prop}

/-- A scope with two labels: the run comes back to both, each time with less to do. -/
theorem wp_scope_both {c rest0 rest1 : Code} (l0 l1 : Nat) (hne : l0 ≠ l1) (J0 J1 : Act → World → Prop) (μ : Act → World → Nat) (hf0 : findLabel c l0 = some (Code.skip.seq rest0)) (hf1 : findLabel c l1 = some (Code.skip.seq rest1))
    (first : (∀ a w, J0 a w → rest0.wp P (jumpTwo l0 l1 J0 J1 Q) a w) → c.wp P (jumpTwo l0 l1 J0 J1 Q) a w)
    (pass0 : ∀ a w, (∀ a₁ w₁, J1 a₁ w₁ → μ a₁ w₁ ≤ μ a w → rest1.wp P (jumpTwo l0 l1 (fun a' w' => J0 a' w' ∧ μ a' w' < μ a w) (fun a' w' => J1 a' w' ∧ μ a' w' < μ a w) Q) a₁ w₁) → J0 a w → rest0.wp P (jumpTwo l0 l1 (fun a' w' => J0 a' w' ∧ μ a' w' < μ a w) (fun a' w' => J1 a' w' ∧ μ a' w' < μ a w) Q) a w)
    (pass1 : ∀ a w, J1 a w → rest1.wp P (jumpTwo l0 l1 (fun a' w' => J0 a' w' ∧ μ a' w' < μ a w) (fun a' w' => J1 a' w' ∧ μ a' w' < μ a w) Q) a w) : (Code.scope c).wp P Q a w := by
  have pass0 : ∀ a w, J0 a w → rest0.wp P (jumpTwo l0 l1 (fun a' w' => J0 a' w' ∧ μ a' w' < μ a w) (fun a' w' => J1 a' w' ∧ μ a' w' < μ a w) Q) a w := fun a w h => pass0 a w (fun a₁ w₁ h1 hle => wp_mono (pass1 a₁ w₁ h1) fun e a' w' hq => by
    cases e with
    | goto l' => rcases hq with ⟨e, hj, hl⟩ | ⟨e, hj, hl⟩
                 · exact Or.inl ⟨e, hj, by omega⟩
                 · exact Or.inr ⟨e, hj, by omega⟩
    | _ => exact hq) h
  have pass0' : ∀ a w, J0 a w → (Code.skip.seq rest0).wp P (jumpTwo l0 l1 (fun a' w' => J0 a' w' ∧ μ a' w' < μ a w) (fun a' w' => J1 a' w' ∧ μ a' w' < μ a w) Q) a w := fun a w h => wp_seq (wp_skip (pass0 a w h))
  have pass1' : ∀ a w, J1 a w → (Code.skip.seq rest1).wp P (jumpTwo l0 l1 (fun a' w' => J0 a' w' ∧ μ a' w' < μ a w) (fun a' w' => J1 a' w' ∧ μ a' w' < μ a w) Q) a w := fun a w h => wp_seq (wp_skip (pass1 a w h))
  intro b k cs
  have hg0 : gotoIn l0 (.inScope c :: k) = some (.code (Code.skip.seq rest0) :: .inScope c :: k) := by simp [gotoIn, hf0]
  have hg1 : gotoIn l1 (.inScope c :: k) = some (.code (Code.skip.seq rest1) :: .inScope c :: k) := by simp [gotoIn, hf1]
  have key : ∀ n a w, μ a w = n → (J0 a w → ∃ e a' w', Q e a' w' ∧ Arrives P (lone (b.at a (.code (Code.skip.seq rest0) :: .inScope c :: k)) cs w) b k cs e a' w') ∧ (J1 a w → ∃ e a' w', Q e a' w' ∧ Arrives P (lone (b.at a (.code (Code.skip.seq rest1) :: .inScope c :: k)) cs w) b k cs e a' w') := by
    intro n
    induction n using Nat.strongRecOn with
    | _ n ih =>
      intro a w hn
      constructor
      · intro hJ
        obtain ⟨e, a₁, w₁, hq, harr⟩ := pass0' a w hJ b (.inScope c :: k) cs
        cases e with
        | normal => exact ⟨.normal, a₁, w₁, hq, Steps.trans harr (.one step_inScope)⟩
        | exit id => exact ⟨.exit id, a₁, w₁, hq, fun k' hk => harr k' (by simp [exitTo, hk])⟩
        | goto l' =>
          rcases hq with ⟨rfl, hJ', hlt⟩ | ⟨rfl, hJ', hlt⟩
          · obtain ⟨e₂, a₂, w₂, hq₂, harr₂⟩ := (ih _ (by omega) a₁ w₁ rfl).1 hJ'
            exact ⟨e₂, a₂, w₂, hq₂, .of_steps (harr _ hg0) harr₂⟩
          · obtain ⟨e₂, a₂, w₂, hq₂, harr₂⟩ := (ih _ (by omega) a₁ w₁ rfl).2 hJ'
            exact ⟨e₂, a₂, w₂, hq₂, .of_steps (harr _ hg1) harr₂⟩
        | ret => exact ⟨_, a₁, w₁, hq, harr⟩
        | panic ch => exact ⟨_, a₁, w₁, hq, harr⟩
        | outgrown => exact ⟨_, a₁, w₁, hq, harr⟩
      · intro hJ
        obtain ⟨e, a₁, w₁, hq, harr⟩ := pass1' a w hJ b (.inScope c :: k) cs
        cases e with
        | normal => exact ⟨.normal, a₁, w₁, hq, Steps.trans harr (.one step_inScope)⟩
        | exit id => exact ⟨.exit id, a₁, w₁, hq, fun k' hk => harr k' (by simp [exitTo, hk])⟩
        | goto l' =>
          rcases hq with ⟨rfl, hJ', hlt⟩ | ⟨rfl, hJ', hlt⟩
          · obtain ⟨e₂, a₂, w₂, hq₂, harr₂⟩ := (ih _ (by omega) a₁ w₁ rfl).1 hJ'
            exact ⟨e₂, a₂, w₂, hq₂, .of_steps (harr _ hg0) harr₂⟩
          · obtain ⟨e₂, a₂, w₂, hq₂, harr₂⟩ := (ih _ (by omega) a₁ w₁ rfl).2 hJ'
            exact ⟨e₂, a₂, w₂, hq₂, .of_steps (harr _ hg1) harr₂⟩
        | ret => exact ⟨_, a₁, w₁, hq, harr⟩
        | panic ch => exact ⟨_, a₁, w₁, hq, harr⟩
        | outgrown => exact ⟨_, a₁, w₁, hq, harr⟩
  have hp : ∀ a w, J0 a w → rest0.wp P (jumpTwo l0 l1 J0 J1 Q) a w := fun a w h => wp_mono (pass0 a w h) fun e a' w' hq => by
    cases e with
    | goto l' => rcases hq with ⟨e, hj, _⟩ | ⟨e, hj, _⟩
                 · exact Or.inl ⟨e, hj⟩
                 · exact Or.inr ⟨e, hj⟩
    | _ => exact hq
  obtain ⟨e, a₁, w₁, hq, harr⟩ := first hp b (.inScope c :: k) cs
  cases e with
  | normal => exact ⟨.normal, a₁, w₁, hq, .head step_scope (Steps.trans harr (.one step_inScope))⟩
  | exit id => exact ⟨.exit id, a₁, w₁, hq, fun k' hk => .head step_scope (harr k' (by simp [exitTo, hk]))⟩
  | goto l' =>
    rcases hq with ⟨rfl, hJ'⟩ | ⟨rfl, hJ'⟩
    · obtain ⟨e₂, a₂, w₂, hq₂, harr₂⟩ := (key _ a₁ w₁ rfl).1 hJ'
      exact ⟨e₂, a₂, w₂, hq₂, .of_steps (.head step_scope (harr _ hg0)) harr₂⟩
    · obtain ⟨e₂, a₂, w₂, hq₂, harr₂⟩ := (key _ a₁ w₁ rfl).2 hJ'
      exact ⟨e₂, a₂, w₂, hq₂, .of_steps (.head step_scope (harr _ hg1)) harr₂⟩
  | ret => exact ⟨_, a₁, w₁, hq, .of_steps (.one step_scope) harr⟩
  | panic ch => exact ⟨_, a₁, w₁, hq, .of_steps (.one step_scope) harr⟩
  | outgrown => exact ⟨_, a₁, w₁, hq, .of_steps (.one step_scope) harr⟩
end

/-- What was parsed up to a place. -/
structure Inv (s : List UInt8) (k : Nat) (all : List (List UInt8 × List UInt8)) (acc : List Fld) : Prop where
  flds : all ++ (parseL (s.drop k)).1 = (parseL s).1
  body : k + (parseL (s.drop k)).2 = (parseL s).2
  kept : acc.map lst = all.take 1024
  len : acc.length ≤ 1024
  fits : ∀ f ∈ acc, Fits f
/-- What was parsed up to a line of a field. -/
structure Inv1 (s : List UInt8) (k : Nat) (all : List (List UInt8 × List UInt8)) (acc : List Fld) (n x : List UInt8) : Prop where
  flds : all ++ ((n, trimL (x ++ (contL (s.drop k)).1)) :: (parseL (s.drop (k + (contL (s.drop k)).2))).1) = (parseL s).1
  body : k + (contL (s.drop k)).2 + (parseL (s.drop (k + (contL (s.drop k)).2))).2 = (parseL s).2
  kept : acc.map lst = all.take 1024
  len : acc.length ≤ 1024
  fits : ∀ f ∈ acc, Fits f

/-- What the frame of Parse holds at its label 'field'. -/
def Jfield (s : ByteArray) (w : World) (a' : Act) (w' : World) : Prop :=
  ∃ (k : Nat) (lv : Value) (acc : List Fld) (all : List (List UInt8 × List UInt8)) (u : Nat → Value), a' = { tmps := #[.string s, undef, .slice none 0 0, .int .i64 0, lv, .int .i64 k, .string (bts (lineOf (s.data.toList.drop k))), .int .i64 (lineN (s.data.toList.drop k) : Int), u 8, u 9, u 10, u 11, u 12, u 13, u 14, u 15, u 16, u 17, u 18, u 19, u 20, u 21, u 22, u 23, u 24, u 25, u 26, u 27, u 28, u 29, u 30, u 31, u 32, u 33, u 34, u 35, u 36, u 37, u 38, u 39, u 40, u 41, u 42, u 43, u 44, u 45, u 46, u 47, u 48, u 49, u 50, u 51, u 52, u 53, u 54, u 55, u 56, u 57, u 58, u 59, u 60, u 61, u 62, u 63, u 64, u 65, u 66, u 67, u 68], defers := [] } ∧ k ≤ s.size ∧ Hid (Inv s.data.toList k all acc) ∧ Hid (w'.ownsRow w.heap.size 40 2 lv acc.length (flatF acc)) ∧ Hid (Below w.heap.size w w')
theorem Jfield.mk {s : ByteArray} {w : World} {a' : Act} {w' : World} (k : Nat) (lv : Value) (acc : List Fld) (all : List (List UInt8 × List UInt8))
    (ha : a' = { tmps := #[.string s, undef, .slice none 0 0, .int .i64 0, lv, .int .i64 k, .string (bts (lineOf (s.data.toList.drop k))), .int .i64 (lineN (s.data.toList.drop k) : Int), a'.tmps.getD 8 undef, a'.tmps.getD 9 undef, a'.tmps.getD 10 undef, a'.tmps.getD 11 undef, a'.tmps.getD 12 undef, a'.tmps.getD 13 undef, a'.tmps.getD 14 undef, a'.tmps.getD 15 undef, a'.tmps.getD 16 undef, a'.tmps.getD 17 undef, a'.tmps.getD 18 undef, a'.tmps.getD 19 undef, a'.tmps.getD 20 undef, a'.tmps.getD 21 undef, a'.tmps.getD 22 undef, a'.tmps.getD 23 undef, a'.tmps.getD 24 undef, a'.tmps.getD 25 undef, a'.tmps.getD 26 undef, a'.tmps.getD 27 undef, a'.tmps.getD 28 undef, a'.tmps.getD 29 undef, a'.tmps.getD 30 undef, a'.tmps.getD 31 undef, a'.tmps.getD 32 undef, a'.tmps.getD 33 undef, a'.tmps.getD 34 undef, a'.tmps.getD 35 undef, a'.tmps.getD 36 undef, a'.tmps.getD 37 undef, a'.tmps.getD 38 undef, a'.tmps.getD 39 undef, a'.tmps.getD 40 undef, a'.tmps.getD 41 undef, a'.tmps.getD 42 undef, a'.tmps.getD 43 undef, a'.tmps.getD 44 undef, a'.tmps.getD 45 undef, a'.tmps.getD 46 undef, a'.tmps.getD 47 undef, a'.tmps.getD 48 undef, a'.tmps.getD 49 undef, a'.tmps.getD 50 undef, a'.tmps.getD 51 undef, a'.tmps.getD 52 undef, a'.tmps.getD 53 undef, a'.tmps.getD 54 undef, a'.tmps.getD 55 undef, a'.tmps.getD 56 undef, a'.tmps.getD 57 undef, a'.tmps.getD 58 undef, a'.tmps.getD 59 undef, a'.tmps.getD 60 undef, a'.tmps.getD 61 undef, a'.tmps.getD 62 undef, a'.tmps.getD 63 undef, a'.tmps.getD 64 undef, a'.tmps.getD 65 undef, a'.tmps.getD 66 undef, a'.tmps.getD 67 undef, a'.tmps.getD 68 undef], defers := [] }) (h0 : k ≤ s.size) (h1 : Hid (Inv s.data.toList k all acc)) (h2 : Hid (w'.ownsRow w.heap.size 40 2 lv acc.length (flatF acc))) (h3 : Hid (Below w.heap.size w w')) : Jfield s w a' w' :=
  ⟨k, lv, acc, all, fun i => a'.tmps.getD i undef, ha, h0, h1, h2, h3⟩
/-- .. and at its label 'more'. -/
def Jmore (s : ByteArray) (w : World) (a' : Act) (w' : World) : Prop :=
  ∃ (k z b : Nat) (lv : Value) (acc : List Fld) (all : List (List UInt8 × List UInt8)) (n piece bs : List UInt8) (wb : World) (u : Nat → Value), a' = { tmps := #[.string s, undef, .slice none 0 0, .int .i64 0, lv, .int .i64 k, u 6, .int .i64 (z : Int), .string (bts n), .string (bts piece), u 10, .pointer (some ⟨b, 0, none⟩), u 12, u 13, u 14, u 15, u 16, u 17, u 18, u 19, u 20, u 21, u 22, u 23, u 24, u 25, u 26, u 27, u 28, u 29, u 30, u 31, u 32, u 33, u 34, u 35, u 36, u 37, u 38, u 39, u 40, u 41, u 42, u 43, u 44, u 45, u 46, u 47, u 48, u 49, u 50, u 51, u 52, u 53, u 54, u 55, u 56, u 57, u 58, u 59, u 60, u 61, u 62, u 63, u 64, u 65, u 66, u 67, u 68], defers := [] } ∧ k + z ≤ s.size ∧ 1 ≤ z ∧ bs.length + piece.length ≤ k + z ∧ n.length ≤ s.size ∧ Hid (Inv1 s.data.toList (k + z) all acc n (bs ++ piece)) ∧ Hid (Lib.IsBuilderF 65 5 b b (Lib.byteCells bs) w') ∧ wb.heap.size = b ∧ Hid (wb.ownsRow w.heap.size 40 2 lv acc.length (flatF acc)) ∧ Hid (Below b wb w') ∧ Hid (Below w.heap.size w wb)
theorem Jmore.mk {s : ByteArray} {w : World} {a' : Act} {w' : World} (k z b : Nat) (lv : Value) (acc : List Fld) (all : List (List UInt8 × List UInt8)) (n piece bs : List UInt8) (wb : World)
    (ha : a' = { tmps := #[.string s, undef, .slice none 0 0, .int .i64 0, lv, .int .i64 k, a'.tmps.getD 6 undef, .int .i64 (z : Int), .string (bts n), .string (bts piece), a'.tmps.getD 10 undef, .pointer (some ⟨b, 0, none⟩), a'.tmps.getD 12 undef, a'.tmps.getD 13 undef, a'.tmps.getD 14 undef, a'.tmps.getD 15 undef, a'.tmps.getD 16 undef, a'.tmps.getD 17 undef, a'.tmps.getD 18 undef, a'.tmps.getD 19 undef, a'.tmps.getD 20 undef, a'.tmps.getD 21 undef, a'.tmps.getD 22 undef, a'.tmps.getD 23 undef, a'.tmps.getD 24 undef, a'.tmps.getD 25 undef, a'.tmps.getD 26 undef, a'.tmps.getD 27 undef, a'.tmps.getD 28 undef, a'.tmps.getD 29 undef, a'.tmps.getD 30 undef, a'.tmps.getD 31 undef, a'.tmps.getD 32 undef, a'.tmps.getD 33 undef, a'.tmps.getD 34 undef, a'.tmps.getD 35 undef, a'.tmps.getD 36 undef, a'.tmps.getD 37 undef, a'.tmps.getD 38 undef, a'.tmps.getD 39 undef, a'.tmps.getD 40 undef, a'.tmps.getD 41 undef, a'.tmps.getD 42 undef, a'.tmps.getD 43 undef, a'.tmps.getD 44 undef, a'.tmps.getD 45 undef, a'.tmps.getD 46 undef, a'.tmps.getD 47 undef, a'.tmps.getD 48 undef, a'.tmps.getD 49 undef, a'.tmps.getD 50 undef, a'.tmps.getD 51 undef, a'.tmps.getD 52 undef, a'.tmps.getD 53 undef, a'.tmps.getD 54 undef, a'.tmps.getD 55 undef, a'.tmps.getD 56 undef, a'.tmps.getD 57 undef, a'.tmps.getD 58 undef, a'.tmps.getD 59 undef, a'.tmps.getD 60 undef, a'.tmps.getD 61 undef, a'.tmps.getD 62 undef, a'.tmps.getD 63 undef, a'.tmps.getD 64 undef, a'.tmps.getD 65 undef, a'.tmps.getD 66 undef, a'.tmps.getD 67 undef, a'.tmps.getD 68 undef], defers := [] }) (h0 : k + z ≤ s.size) (h1 : 1 ≤ z) (h2 : bs.length + piece.length ≤ k + z) (h3 : n.length ≤ s.size) (h4 : Hid (Inv1 s.data.toList (k + z) all acc n (bs ++ piece))) (h5 : Hid (Lib.IsBuilderF 65 5 b b (Lib.byteCells bs) w')) (h6 : wb.heap.size = b) (h7 : Hid (wb.ownsRow w.heap.size 40 2 lv acc.length (flatF acc))) (h8 : Hid (Below b wb w')) (h9 : Hid (Below w.heap.size w wb)) : Jmore s w a' w' :=
  ⟨k, z, b, lv, acc, all, n, piece, bs, wb, fun i => a'.tmps.getD i undef, ha, h0, h1, h2, h3, h4, h5, h6, h7, h8, h9⟩
/-- How much is left. -/
def leftP (s : ByteArray) (a' : Act) (_ : World) : Nat := s.size - (intOf (a'.tmps.getD 5 undef)).toNat

theorem rowF_of_own {w : World} {B : Nat} {v : Value} {l : List Fld} (h : w.ownsRow B 40 2 v l.length (flatF l)) (h6 : l.length ≤ 4194304) (hn : ∀ f ∈ l, Fits f) : RowF w v l := by
  rcases h.2 with ⟨hv, h0⟩ | ⟨g, cap, cur, hv, hg, hh, hn', hm, hs, ht⟩
  · have : l = [] := List.eq_nil_of_length_eq_zero h0
    subst this
    exact ⟨none, 0, by rw [hv]; rfl, h6, hn, Or.inl rfl⟩
  · refine ⟨some ⟨g, 0, none⟩, cap, hv, h6, hn, Or.inr ⟨g, 0, rfl, (Array.getElem?_eq_some_iff.1 hh).1, fun j u hj => ?_⟩⟩
    have hjl : j < l.length * 2 := by
      rcases Nat.lt_or_ge j (flatF l).length with h | h
      · rwa [flatF_length] at h
      · rw [List.getElem?_eq_none h] at hj; simp at hj
    rw [← ht, List.getElem?_take, if_pos hjl] at hj
    simp only [World.cell?, hh]
    simpa using hj

theorem goes_first {L : ByteArray} {l : List UInt8} (h : L.data.toList = l) (h0 : 0 < L.size) : isB L[0] = goesOn l := by
  have := drop_byte L 0 h0
  rw [List.drop_zero, h] at this
  rw [this]
  rfl
theorem inv1_go {s : List UInt8} {k : Nat} {all : List (List UInt8 × List UInt8)} {acc : List Fld} {n x : List UInt8} (h : Inv1 s k all acc n x) (hg : goesOn (lineOf (s.drop k)) = true) :
    Inv1 s (k + lineN (s.drop k)) all acc n (x ++ lineOf (s.drop k)) := by
  have e := contL_go hg
  rw [List.drop_drop] at e
  refine ⟨?_, ?_, h.kept, h.len, h.fits⟩
  · rw [← h.flds, e]
    simp only [List.append_assoc, Nat.add_assoc]
  · rw [← h.body, e]
    simp only [Nat.add_assoc]
theorem inv1_stop {s : List UInt8} {k : Nat} {all : List (List UInt8 × List UInt8)} {acc acc' : List Fld} {n x : List UInt8} (h : Inv1 s k all acc n x) (hg : goesOn (lineOf (s.drop k)) = false)
    (hk : acc'.map lst = (all ++ [(n, trimL x)]).take 1024) (hl : acc'.length ≤ 1024) (hf : ∀ f ∈ acc', Fits f) : Inv s k (all ++ [(n, trimL x)]) acc' := by
  have e := contL_stop hg
  refine ⟨?_, ?_, hk, hl, hf⟩
  · rw [← h.flds, e]
    simp
  · rw [← h.body, e]
    simp
theorem kept_more {all : List (List UInt8 × List UInt8)} {acc : List Fld} {f : Fld} (h : acc.map lst = all.take 1024) (hl : acc.length < 1024) : (acc ++ [f]).map lst = (all ++ [lst f]).take 1024 := by
  have hal : all.length < 1024 := by
    have := congrArg List.length h
    simp at this
    omega
  rw [List.take_of_length_le (by omega)] at h
  rw [List.take_of_length_le (by simp; omega), List.map_append, h]
  rfl
theorem kept_full {all : List (List UInt8 × List UInt8)} {acc : List Fld} {x : List UInt8 × List UInt8} (h : acc.map lst = all.take 1024) (hl : ¬ acc.length < 1024) : acc.map lst = (all ++ [x]).take 1024 := by
  have hal : 1024 ≤ all.length := by
    have := congrArg List.length h
    simp at this
    omega
  rw [h, List.take_append_of_le_length hal]
theorem two_cells (w : World) (x y : Value) (t : TypeId) : ∀ j u, [x, y][j]? = some u → (w.alloc (.cells #[x, y] t)).cell? (Addr.add ⟨w.heap.size, 0, none⟩ j) = some u := by
  intro j u hj
  match j, hj with
  | 0, hj => simp at hj; subst hj; simp [Addr.add]
  | 1, hj => simp at hj; subst hj; simp [Addr.add]

end Go.Proofs.YtedpimhhbajljaaGreatDoor
