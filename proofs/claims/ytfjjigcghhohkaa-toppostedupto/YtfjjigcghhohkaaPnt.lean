/-
  What post.Has answers, in all numbers that the blocks have: plain mathematics; what the reader's three calls answer, with no premise but the text's size.
-/
import Derived.Test.YtfjjigcghhohkaaPnl
import Derived.Test.YtfjjigcghhohkaaPno
set_option linter.unusedVariables false
namespace Go.Proofs.Ytfjjigcghhohkaa
open Go.RowKit Go.Proofs.Num Go.Proofs.Dct Go.Proofs.Pna

theorem between {p : List Nat} {a b n : Nat} (h : Up a p b) (hp : 1 ≤ p.length) (hn : n ∈ p) : p.getD 0 0 ≤ n ∧ n ≤ p.getD (p.length - 1) 0 := by
  have hr := h.pairwise
  obtain ⟨k, hk, rfl⟩ := List.getElem_of_mem hn
  rw [List.getD_eq_getElem?_getD, List.getD_eq_getElem?_getD, List.getElem?_eq_getElem (show 0 < p.length by omega), List.getElem?_eq_getElem (show p.length - 1 < p.length by omega)]
  simp only [Option.getD_some]
  constructor
  · by_cases h0 : k = 0
    · subst h0; exact Nat.le_refl _
    · have := List.pairwise_iff_getElem.1 hr 0 k (by omega) hk (by omega)
      omega
  · by_cases h0 : k = p.length - 1
    · subst h0; exact Nat.le_refl _
    · have := List.pairwise_iff_getElem.1 hr k (p.length - 1) hk (by omega) (by omega)
      omega
theorem hasS_memN (n k : Nat) : ∀ (l : List (Nat × List Nat)), l.length = k → ∀ (a b : Nat), Up a (flatB l) b → (∀ p ∈ l, 1 ≤ p.2.length) → hasS n l = decide (n ∈ flatB l) := by
  induction k with
  | zero => intro l hk a b _ _; rw [List.eq_nil_of_length_eq_zero hk]; simp [hasS, flatB]
  | succ k ihk =>
  intro l hk
  rcases List.eq_nil_or_concat l with rfl | ⟨l', p, rfl⟩
  · intro a b _ _; simp [hasS, flatB]
  · intro a b hu hl
    rw [List.concat_eq_append] at hu hl ⊢
    rw [hasS_snoc, flatB_snoc]
    rw [flatB_snoc] at hu
    obtain ⟨c, h1, h2⟩ := Up.split hu
    have hp := hl p (by simp)
    have ih := ihk l' (by simpa using hk) a c h1 (fun q hq => hl q (List.mem_append_left _ hq))
    by_cases hc : p.2.getD 0 0 ≤ n ∧ n ≤ p.2.getD (p.2.length - 1) 0
    · rw [if_pos hc, decide_eq_decide, List.mem_append]
      constructor
      · exact .inr
      · rintro (h | h)
        · exfalso
          have h3 := h1.mem n h
          have h4 : p.2.getD 0 0 ∈ p.2 := by
            rw [List.getD_eq_getElem?_getD, List.getElem?_eq_getElem (show 0 < p.2.length by omega)]
            exact List.getElem_mem _
          have h5 := h2.mem _ h4
          have := hc.1
          omega
        · exact h
    · rw [if_neg hc, ih, decide_eq_decide, List.mem_append]
      constructor
      · exact .inl
      · rintro (h | h)
        · exact h
        · exact absurd (between h2 hp h) hc
theorem hasS_mem (n : Nat) (l : List (Nat × List Nat)) (a b : Nat) (h : Up a (flatB l) b) (hl : ∀ p ∈ l, 1 ≤ p.2.length) : hasS n l = decide (n ∈ flatB l) := hasS_memN n _ l rfl a b h hl

theorem readS_has (n : Nat) (T : List UInt8) : hasS n (readS T).1 = decide (n ∈ flatB (readS T).1) := by
  obtain ⟨b, _, h⟩ := (readS_told T).up'
  exact hasS_mem n _ _ b h (fun p hp => ((readS_told T).len p hp).1)

theorem unpackS_any (s : ByteArray) (w : World) (hs : s.size ≤ 140737488355328) :
    Calls Try.prog 8 #[.string s] w fun e w' => ((readS s.data.toList).2.er = 0 → ∃ v d, e = .returned (.tuple #[v, .string d, .int .i64 0]) ∧ w'.ownsRow w.heap.size 31 1 v (flatB (readS s.data.toList).1).length (flatG cells32 (flatB (readS s.data.toList).1)) ∧ d.data.toList = s.data.toList.drop (readS s.data.toList).2.pos) ∧
      ((readS s.data.toList).2.er ≠ 0 → e = .returned (.tuple #[.slice none 0 0, .string ⟨#[]⟩, .int .i64 ((readS s.data.toList).2.er : Int)])) ∧ Below w.heap.size w w' :=
  unpack_any s w hs (Nat.le_trans (readS_few s.data.toList) (by decide)) (readS_fit s.data.toList) (readS_told s.data.toList).inn
theorem blocksS_any (s : ByteArray) (w : World) (hs : s.size ≤ 140737488355328) :
    Calls Try.prog 10 #[.string s] w fun e w' => ((readS s.data.toList).2.er = 0 → ∃ v, e = .returned (.tuple #[v, .int .i64 0]) ∧ w'.ownsRow w.heap.size 38 4 v (readS s.data.toList).1.length (flatG cellsK (readS s.data.toList).1)) ∧
      ((readS s.data.toList).2.er ≠ 0 → e = .returned (.tuple #[.slice none 0 0, .int .i64 ((readS s.data.toList).2.er : Int)])) ∧ Below w.heap.size w w' :=
  blocksP_any s w hs (Nat.le_trans (readS_blocks s.data.toList) (by decide))
theorem hasS_any (s : ByteArray) (n : Nat) (w : World) (hn : n ≤ 4294967295) (hs : s.size ≤ 140737488355328) :
    Calls Try.prog 11 #[.string s, .int .u32 (n : Int)] w fun e w' => ((readS s.data.toList).2.er = 0 → e = .returned (.tuple #[.bool (decide (n ∈ flatB (readS s.data.toList).1)), .int .i64 0])) ∧
      ((readS s.data.toList).2.er ≠ 0 → e = .returned (.tuple #[.bool false, .int .i64 ((readS s.data.toList).2.er : Int)])) ∧ Below w.heap.size w w' := by
  rw [← readS_has n s.data.toList]
  exact has_any s n w hn hs (readS_each s.data.toList)
end Go.Proofs.Ytfjjigcghhohkaa
