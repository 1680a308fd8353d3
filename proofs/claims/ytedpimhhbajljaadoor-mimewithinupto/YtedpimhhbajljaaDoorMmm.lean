/-
  What Parts of mime tells, as plain mathematics: a stack of texts, of which the first is told next.
-/
import Derived.Test.YtedpimhhbajljaaDoorMmj
set_option linter.unusedVariables false
namespace Go.Proofs.YtedpimhhbajljaaDoor
open Go.RowKit Go.Proofs.Hed

/-- A part as it is told: level, type, charset, coding, body. -/
structure PT where
  lv : Int
  ty : ByteArray
  ch : ByteArray
  co : ByteArray
  bo : ByteArray

/-- What lies on the stack: a level and a text. -/
abbrev SK := Int × ByteArray

def ptOf (p : SK) : PT := ⟨p.1, rdT p.2.data.toList, rdC p.2.data.toList, rdD p.2.data.toList, if (rdK p.1 p.2).length = 0 then rdY p.2 else ⟨#[]⟩⟩
def kidsO (p : SK) : List SK := (rdK p.1 p.2).map fun q => (p.1 + 1, (rdY p.2).extract q.1 q.2)

/-- The parts that are told, f at most. -/
def ptsF : Nat → List SK → List PT
  | 0, _ => []
  | _ + 1, [] => []
  | f + 1, p :: st => ptOf p :: ptsF f (kidsO p ++ st)
def ptsL (s : ByteArray) : List PT := ptsF 256 [(0, s)]

theorem ptsF_len : ∀ (f : Nat) (st : List SK), (ptsF f st).length ≤ f
  | 0, _ => by simp [ptsF]
  | f + 1, [] => by simp [ptsF]
  | f + 1, p :: st => by
    have := ptsF_len f (kidsO p ++ st)
    simp only [ptsF, List.length_cons]
    omega
theorem ptsL_len (s : ByteArray) : (ptsL s).length ≤ 256 := ptsF_len _ _
theorem ptsF_nil (f : Nat) : ptsF f [] = [] := by cases f <;> rfl

/-- How a part lies in memory, told and on the stack. -/
def ptC (p : PT) : List Value := [.int .i64 p.lv, .string p.ty, .string p.ch, .string p.co, .string p.bo]
def skC (p : SK) : List Value := [.int .i64 p.1, .string ⟨#[]⟩, .string ⟨#[]⟩, .string ⟨#[]⟩, .string ⟨#[]⟩, .string p.2]

theorem rdY_size (s : ByteArray) : (rdY s).size ≤ s.size := by
  unfold rdY
  rw [size_part s _ _ (Nat.le_refl _)]
  omega
theorem ext_size (s : ByteArray) (i j : Nat) : (s.extract i j).size ≤ s.size := by
  rw [ByteArray.size_extract]
  omega
/-- What a part's own parts are: one level below, and not greater. -/
theorem kidsO_ok (p : SK) : ∀ q ∈ kidsO p, q.1 = p.1 + 1 ∧ q.2.size ≤ p.2.size := by
  intro q hq
  obtain ⟨k, _, rfl⟩ := List.mem_map.1 hq
  exact ⟨rfl, Nat.le_trans (ext_size _ _ _) (rdY_size _)⟩
theorem kidsO_deep (p : SK) (h : p.1 ≥ 8) : kidsO p = [] := by
  unfold kidsO rdK kidsP
  rw [if_pos h]
  rfl
/-- What holds of all that lies on a stack: levels of 8 at most, texts of n bytes at most. -/
def SkOk (n : Nat) (st : List SK) : Prop := ∀ q ∈ st, 0 ≤ q.1 ∧ q.1 ≤ 8 ∧ q.2.size ≤ n
theorem SkOk.next {n : Nat} {p : SK} {st : List SK} (h : SkOk n (p :: st)) : SkOk n (kidsO p ++ st) := by
  intro q hq
  have hp := h p (by simp)
  rcases List.mem_append.1 hq with hk | hk
  · have := kidsO_ok p q hk
    by_cases h8 : p.1 ≥ 8
    · rw [kidsO_deep p h8] at hk
      simp at hk
    · omega
  · exact h q (by simp [hk])
theorem SkOk.one {n : Nat} {s : ByteArray} (h : s.size ≤ n) : SkOk n [(0, s)] := by
  intro q hq
  rw [List.mem_singleton] at hq
  subst hq
  exact ⟨Int.le_refl 0, by show (0 : Int) ≤ 8; decide, h⟩

/-- The levels of what is told: the first's is that of the stack's first; each is 8 at most. -/
theorem ptsF_levels : ∀ (f : Nat) (st : List SK) (n : Nat), SkOk n st → ∀ p ∈ ptsF f st, 0 ≤ p.lv ∧ p.lv ≤ 8
  | 0, _, _, _, p, hp => by simp [ptsF] at hp
  | f + 1, [], _, _, p, hp => by simp [ptsF] at hp
  | f + 1, q :: st, n, h, p, hp => by
    simp only [ptsF, List.mem_cons] at hp
    rcases hp with rfl | hp
    · have := h q (by simp)
      exact ⟨this.1, this.2.1⟩
    · exact ptsF_levels f _ n h.next p hp

end Go.Proofs.YtedpimhhbajljaaDoor
