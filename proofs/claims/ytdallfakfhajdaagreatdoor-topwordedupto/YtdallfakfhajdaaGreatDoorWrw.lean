/-
  What word.readWord does, over this seat's program.
-/
import Derived.Test.YtdallfakfhajdaaGreatDoorWfq
import Derived.Test.YtdallfakfhajdaaGreatDoorRnm
import Derived.Test.YtdallfakfhajdaaGreatDoorRdc
import Derived.Deep.Onto
set_option linter.unusedVariables false
namespace Go.Proofs.YtdallfakfhajdaaGreatDoor
open Go.RowKit Go.Proofs.Enc Go.Proofs.Rns

/-- What is behind a word's first two bytes. -/
def opW (l : List UInt8) : Option (List UInt8) := match l with
  | a :: b :: r => if a = 61 ∧ b = 63 then some r else none
  | _ => none
theorem opW_pre (l : List UInt8) : Lib.hasPrefix l [61, 63] = (opW l).isSome := by
  unfold Lib.hasPrefix opW
  rcases l with _ | ⟨a, _ | ⟨b, r⟩⟩
  · rfl
  · simp [List.isPrefixOf]
  · dsimp only
    by_cases h : a = 61 ∧ b = 63
    · rw [if_pos h, h.1, h.2]; simp [List.isPrefixOf]
    · rw [if_neg h]
      simp only [List.isPrefixOf, Option.isSome_none, Bool.and_true]
      rw [Bool.and_eq_false_iff]
      by_cases h1 : a = 61
      · right
        simp only [beq_eq_false_iff_ne, ne_eq]
        intro e; exact h ⟨h1, e.symm⟩
      · left
        simp only [beq_eq_false_iff_ne, ne_eq]
        intro e; exact h1 e.symm
theorem opW_some {l r : List UInt8} (h : opW l = some r) : r = l.drop 2 ∧ 2 ≤ l.length := by
  unfold opW at h
  rcases l with _ | ⟨a, _ | ⟨b, t⟩⟩
  · cases h
  · cases h
  · simp only at h
    split at h
    · simp at h; subst h; simp
    · cases h

set_option maxHeartbeats 1000000 in
theorem cutOpen_any (s : ByteArray) (w : World) :
    Calls Tryz.prog 66 #[.string s, .string (bts [61, 63])] w fun e w' => e = .returned (match opW s.data.toList with | some r => .tuple #[.string (bts r), .bool true] | none => .tuple #[.string s, .bool false]) ∧ w' = w := by
  have HP := hide (fun W => Tryz.stringslite_HasPrefix s (bts [61, 63]) W)
  rw [toList_bts, opW_pre] at HP
  have hz : (bts [61, 63]).size = 2 := size_bts _
  cases ho : opW s.data.toList with
  | none =>
    rw [ho] at HP
    simp only [Option.isSome_none] at HP
    simp only
    generalize bts [61, 63] = p at hz HP ⊢
    have HL : Hid (∀ W, Calls Tryz.prog 113 #[.string s, .string p] W fun e w' => e = .returned (.tuple #[.string s, .bool false]) ∧ w' = W) := hide (fun W => by
      clear ho
      go_enter Tryz.func113, Tryz.ntmps113
      go_wp2_with (go_at_call 141; refine (unhide HP _).mono ?_; rintro e _ ⟨rfl, rfl⟩)
      go_ret2
      exact ⟨rfl, rfl⟩)
    clear ho HP
    go_enter Tryz.func66, Tryz.ntmps66
    go_wp2_with (go_at_call 113; refine (unhide HL _).mono ?_; rintro e _ ⟨rfl, rfl⟩)
    go_ret2
    exact ⟨rfl, rfl⟩
  | some r =>
    rw [ho] at HP
    simp only [Option.isSome_some] at HP
    obtain ⟨hr, hl⟩ := opW_some ho
    rw [sizeL] at hl
    have hb : bts r = s.extract 2 s.size := by apply ext_list; rw [toList_bts, toList_from, hr]
    have HS := fun W => slice_from s 2 2 rfl hl W
    rw [← hb] at HS
    simp only
    generalize bts [61, 63] = p at hz HP ⊢
    generalize bts r = t at HS ⊢
    have HL : Hid (∀ W, Calls Tryz.prog 113 #[.string s, .string p] W fun e w' => e = .returned (.tuple #[.string t, .bool true]) ∧ w' = W) := hide (fun W => by
      clear ho hr hb
      go_enter Tryz.func113, Tryz.ntmps113
      go_wp2_with (go_at_call 141; refine (unhide HP _).mono ?_; rintro e _ ⟨rfl, rfl⟩)
      go_ret2
      exact ⟨rfl, rfl⟩)
    clear ho HP hr hb HS
    go_enter Tryz.func66, Tryz.ntmps66
    go_wp2_with (go_at_call 113; refine (unhide HL _).mono ?_; rintro e _ ⟨rfl, rfl⟩)
    go_ret2
    exact ⟨rfl, rfl⟩

/-- What is ahead of a byte, and behind it: nothing, if there is none. -/
def cutD (k : UInt8) (l : List UInt8) : List UInt8 × List UInt8 := (cutAt k l).getD (l, [])
theorem cutD_len (k : UInt8) (l : List UInt8) : (cutD k l).1.length + (cutD k l).2.length ≤ l.length := by
  unfold cutD
  have := index_cut k l
  cases h : cutAt k l with
  | none => simp
  | some p =>
    rw [h] at this
    obtain ⟨_, h2⟩ := this
    simp only [Option.getD_some]
    rw [h2]
    simp
theorem cutD_any (c : UInt8) (s : ByteArray) (w : World) (hs : s.size ≤ 281474976710656) :
    Calls Tryz.prog 56 #[.string s, .string ⟨#[c]⟩] w fun e w' => (∃ b, e = .returned (.tuple #[.string (bts (cutD c s.data.toList).1), .string (bts (cutD c s.data.toList).2), .bool b])) ∧ Below w.heap.size w w' := by
  refine (cut1_any c s w hs).mono ?_
  rintro e w' ⟨rfl, q, rfl⟩
  refine ⟨?_, ⟨rfl, rfl, rfl, Nat.le_refl _, fun _ _ => rfl⟩⟩
  unfold cutD
  cases cutAt c s.data.toList with
  | none => exact ⟨false, by simp only [Option.getD_none]; rw [bts_toList]; rfl⟩
  | some p => exact ⟨true, rfl⟩

theorem qA_len : ∀ (f : Nat) (acc l b : List UInt8), qA f acc l = some b → b.length ≤ acc.length + l.length
  | 0, acc, l, b, h => by simp [qA] at h; subst h; omega
  | f + 1, acc, [], b, h => by simp [qA] at h; subst h; simp
  | f + 1, acc, c :: r, b, h => by
    by_cases h1 : c = 61
    · unfold qA at h
      rw [if_pos h1] at h
      split at h
      · cases h
      · split at h
        · cases h
        · have := qA_len f _ _ b h
          simp at this
          simp
          omega
    · by_cases h2 : c = 95
      · rw [qA_us h1 h2] at h
        have := qA_len f _ _ b h
        simp at this
        simp
        omega
      · rw [qA_else h1 h2] at h
        have := qA_len f _ _ b h
        simp at this
        simp
        omega
theorem textR_len {c t b : List UInt8} (h : textR c t = some b) : b.length ≤ t.length := by
  unfold textR at h
  split at h
  · split at h
    · simp only [Option.some.injEq] at h
      subst h
      unfold strictR
      split
      · have := from_len t 0 0 rfl
        simp only
        omega
      · simp
    · cases h
  · split at h
    · have := qA_len _ _ _ b h
      simpa using this
    · cases h

/-- A word's parts. -/
structure WP where
  name : List UInt8
  coding : List UInt8
  text : List UInt8
  behind : List UInt8
def partsW (r : List UInt8) : WP := ⟨(cutD 63 r).1, (cutD 63 (cutD 63 r).2).1, (cutD 63 (cutD 63 (cutD 63 r).2).2).1, (cutD 63 (cutD 63 (cutD 63 r).2).2).2⟩
def setW (p : WP) : Nat × Nat := namedR (cutD 42 p.name).1
/-- The word with which a text begins: its letters, and how many bytes it has. -/
def rdP (n : Nat) (p : WP) : Option (List Nat × Nat) :=
  if p.behind.head? = some 61 ∧ plL p.name = true ∧ plL p.text = true then
    if (setW p).2 = 0 then match textR p.coding p.text with
      | none => none
      | some b => some ((decR (setW p).1 b).1, n - (p.behind.length - 1))
    else none
  else none
def rdW (l : List UInt8) : Option (List Nat × Nat) := match opW l with
  | none => none
  | some r => rdP l.length (partsW r)
def rdL (o : Option (List Nat × Nat)) : List Nat := match o with
  | none => []
  | some p => p.1
def rdN (o : Option (List Nat × Nat)) : Nat := match o with
  | none => 0
  | some p => p.2
end Go.Proofs.YtdallfakfhajdaaGreatDoor
