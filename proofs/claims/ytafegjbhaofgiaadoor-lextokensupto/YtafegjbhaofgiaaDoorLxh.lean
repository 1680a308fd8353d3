/-
  What lex.Quote does, over this seat's program.
-/
import Derived.Test.YtafegjbhaofgiaaDoorLxf
set_option linter.unusedVariables false
namespace Go.Proofs.YtafegjbhaofgiaaDoor
open Go.RowKit Go.Proofs.Lx

/-- What is quoted, or the error, as Go tells it. -/
def quoR (o : Option (List UInt8)) : Value := match o with
  | some q => .tuple #[.string (bts q), .int .i64 0]
  | none => .tuple #[.string ⟨#[]⟩, .int .i64 7]
theorem esc_take (s : ByteArray) (k : Nat) (h : k < s.size) : (s.data.toList.take (k + 1)).flatMap escL = (s.data.toList.take k).flatMap escL ++ escL s[k] := by
  rw [take_byte s k h, List.flatMap_append]; simp
theorem esc_len : ∀ l : List UInt8, (l.flatMap escL).length ≤ 2 * l.length
  | [] => by simp
  | c :: r => by
    have := esc_len r
    rw [List.flatMap_cons, List.length_append, List.length_cons]
    have : (escL c).length ≤ 2 := by unfold escL; split <;> simp
    omega
theorem isQ_take (s : ByteArray) (k : Nat) (h : k < s.size) : (s.data.toList.take (k + 1)).all isQ = ((s.data.toList.take k).all isQ && isQ s[k]) := by
  rw [take_byte s k h, List.all_append]; simp
theorem isQ_no {s : ByteArray} {k : Nat} (h : k < s.size) (hq : isQ s[k] = false) : quoteL s.data.toList = none := by
  unfold quoteL
  rw [if_neg]
  intro ha
  have hm : s[k] ∈ s.data.toList := by
    have := drop_byte s k h
    exact List.mem_of_mem_drop (by rw [this]; exact List.mem_cons_self)
  have := List.all_eq_true.1 ha _ hm
  rw [hq] at this; cases this
theorem isQ_all {s : ByteArray} (h : (s.data.toList.take s.size).all isQ = true) : quoteL s.data.toList = some (34 :: ((s.data.toList.take s.size).flatMap escL ++ [34])) := by
  rw [List.take_of_length_le (by rw [sizeL]; omega)] at *
  rw [quoteL, if_pos h]

set_option maxHeartbeats 4000000 in
set_option maxRecDepth 100000 in
theorem quote_any (s : ByteArray) (w : World) (hs : s.size ≤ 274877906944) :
    Calls Tryd.prog 17 #[.string s] w fun e w' => e = .returned (quoR (quoteL s.data.toList)) ∧ Below w.heap.size w w' := by
  have HW0 := hide (wByte (Wr.new w) 34 34 rfl (by simp))
  go_enter Tryd.func17, Tryd.ntmps17
  go_wp2_with fail
  refine (unhide HW0).mono ?_
  rintro e w1 ⟨rfl, h1⟩
  have HW1 := hide h1
  clear h1 HW0
  go_wp2
  go_loopw [5, 6, 10] (fun _ _ z wr => ∃ k : Nat, z = .int .i64 k ∧ k ≤ s.size ∧ Hid ((s.data.toList.take k).all isQ = true) ∧ Hid (Wr w wr (34 :: (s.data.toList.take k).flatMap escL))) (fun _ _ z _ => s.size - (intOf z).toNat)
  case atStart => exact ⟨0, rfl, Nat.zero_le _, hide rfl, HW1⟩
  case round =>
    obtain ⟨k, rfl, hk, HA, HW⟩ := hrel
    by_cases hlt : k < s.size
    · have hlt1 : (k : Int) < (s.size : Int) := by omega
      have hc := s[k].toNat_lt
      have hel := esc_len (s.data.toList.take k)
      have htl : (s.data.toList.take k).length ≤ k := by rw [List.length_take]; omega
      have hL : (34 :: (s.data.toList.take k).flatMap escL).length ≤ 549755813890 := by rw [List.length_cons]; omega
      have HET := hide (esc_take s k hlt)
      have HQT := hide (isQ_take s k hlt)
      clear hel htl
      have esc1 : s[k] = 34 ∨ s[k] = 92 → Hid ((s.data.toList.take (k + 1)).all isQ = true) ∧ Hid (34 :: (s.data.toList.take (k + 1)).flatMap escL = ((34 :: (s.data.toList.take k).flatMap escL) ++ [92]) ++ [s[k]]) := fun h => by
        refine ⟨hide ?_, hide ?_⟩
        · rw [unhide HQT, unhide HA, Bool.true_and]
          rcases h with h | h <;> (rw [h]; decide)
        · rw [unhide HET, escL, if_pos h]; simp
      by_cases c34 : s[k] = 34 ∨ s[k] = 92
      · obtain ⟨HA2, HE2⟩ := esc1 c34
        have HB1 := hide (wByte (unhide HW) 92 92 rfl (by omega))
        have e5 : (((s[k].toNat : Int) == 34) = true) ∨ (((s[k].toNat : Int) == 34) = false ∧ ((s[k].toNat : Int) == 92) = true) := by
          rcases c34 with h | h
          · left; rw [h]; rfl
          · right; rw [h]; exact ⟨rfl, rfl⟩
        clear HET HQT HA esc1 c34
        rcases e5 with e5 | ⟨e5, e6⟩
        · have HB2 := hide (fun W (h : Wr w W ((34 :: (s.data.toList.take k).flatMap escL) ++ [92])) => wByte h s[k] (s[k].toNat : Int) rfl (by rw [List.length_append]; simp at hL ⊢; omega))
          clear hL HW
          go_wp2_with fail
          refine (unhide HB1).mono ?_
          rintro e w2 ⟨rfl, h2⟩
          have HB3 := hide (unhide HB2 _ h2)
          clear h2 HB2 HB1
          go_wp2_with fail
          refine (unhide HB3).mono ?_
          rintro e w3 ⟨rfl, h3⟩
          rw [← unhide HE2] at h3
          have HW3 := hide h3
          clear h3 HB3 HE2
          go_wp2
          exact ⟨⟨k + 1, by go_num, by omega, HA2, HW3⟩, by simp [intOf]; omega⟩
        · have HB2 := hide (fun W (h : Wr w W ((34 :: (s.data.toList.take k).flatMap escL) ++ [92])) => wByte h s[k] (s[k].toNat : Int) rfl (by rw [List.length_append]; simp at hL ⊢; omega))
          clear hL HW
          go_wp2_with fail
          refine (unhide HB1).mono ?_
          rintro e w2 ⟨rfl, h2⟩
          have HB3 := hide (unhide HB2 _ h2)
          clear h2 HB2 HB1
          go_wp2_with fail
          refine (unhide HB3).mono ?_
          rintro e w3 ⟨rfl, h3⟩
          rw [← unhide HE2] at h3
          have HW3 := hide h3
          clear h3 HB3 HE2
          go_wp2
          exact ⟨⟨k + 1, by go_num, by omega, HA2, HW3⟩, by simp [intOf]; omega⟩
      · have n34 : ((s[k].toNat : Int) == 34) = false := by
          rw [beq_eq_false_iff_ne]; intro h
          exact c34 (Or.inl (UInt8.toNat_inj.1 (by have : (34 : UInt8).toNat = 34 := rfl; omega)))
        have n92 : ((s[k].toNat : Int) == 92) = false := by
          rw [beq_eq_false_iff_ne]; intro h
          exact c34 (Or.inr (UInt8.toNat_inj.1 (by have : (92 : UInt8).toNat = 92 := rfl; omega)))
        cases hq : isQ s[k] with
        | true =>
          have HA2 : Hid ((s.data.toList.take (k + 1)).all isQ = true) := hide (by rw [unhide HQT, unhide HA, hq]; rfl)
          have HE2 : Hid (34 :: (s.data.toList.take (k + 1)).flatMap escL = (34 :: (s.data.toList.take k).flatMap escL) ++ [s[k]]) := hide (by
            rw [unhide HET, escL, if_neg c34]; simp)
          have HB1 := hide (wByte (unhide HW) s[k] (s[k].toNat : Int) rfl (by omega))
          unfold isQ at hq
          rw [decide_eq_true_iff] at hq
          have g1 : ¬ 126 < (s[k].toNat : Int) := by omega
          have e9 : ((s[k].toNat : Int) != 9) = false ∨ (((s[k].toNat : Int) != 9) = true ∧ ¬ (s[k].toNat : Int) < 32) := by
            by_cases h9 : s[k].toNat = 9
            · left; rw [h9]; rfl
            · right; refine ⟨by rw [bne_iff_ne]; omega, by omega⟩
          clear HET HQT HA esc1 c34 hq hL HW
          rcases e9 with e9 | ⟨e9, e10⟩
          · go_wp2_with fail
            refine (unhide HB1).mono ?_
            rintro e w3 ⟨rfl, h3⟩
            rw [← unhide HE2] at h3
            have HW3 := hide h3
            clear h3 HB1 HE2
            go_wp2
            exact ⟨⟨k + 1, by go_num, by omega, HA2, HW3⟩, by simp [intOf]; omega⟩
          · go_wp2_with fail
            refine (unhide HB1).mono ?_
            rintro e w3 ⟨rfl, h3⟩
            rw [← unhide HE2] at h3
            have HW3 := hide h3
            clear h3 HB1 HE2
            go_wp2
            exact ⟨⟨k + 1, by go_num, by omega, HA2, HW3⟩, by simp [intOf]; omega⟩
        | false =>
          have HF : Hid (quoteL s.data.toList = none) := hide (isQ_no hlt hq)
          have HBL := hide (unhide HW).bel
          unfold isQ at hq
          rw [decide_eq_false_iff_not] at hq
          have e9 : (((s[k].toNat : Int) != 9) = true ∧ (s[k].toNat : Int) < 32) ∨ (((s[k].toNat : Int) != 9) = true ∧ ¬ (s[k].toNat : Int) < 32 ∧ 126 < (s[k].toNat : Int)) := by
            by_cases h32 : s[k].toNat < 32
            · left; refine ⟨by rw [bne_iff_ne]; omega, by omega⟩
            · right; refine ⟨by rw [bne_iff_ne]; omega, by omega, by omega⟩
          clear HET HQT HA esc1 c34 hq hL HW
          rcases e9 with ⟨e9, e10⟩ | ⟨e9, e10, e11⟩
          · go_wp2
            go_ret2
            exact ⟨by rw [unhide HF]; rfl, unhide HBL⟩
          · go_wp2
            go_ret2
            exact ⟨by rw [unhide HF]; rfl, unhide HBL⟩
    · have hlt1 : ¬ (k : Int) < (s.size : Int) := by omega
      obtain rfl : k = s.size := by omega
      have HF := hide (isQ_all (unhide HA))
      have hel := esc_len (s.data.toList.take s.size)
      have htl : (s.data.toList.take s.size).length ≤ s.size := by rw [List.length_take]; omega
      have hL : (34 :: (s.data.toList.take s.size).flatMap escL).length ≤ 549755813890 := by rw [List.length_cons]; omega
      have HB1 := hide (wByte (unhide HW) 34 34 rfl (by omega))
      have HS := hide (fun W (h : Wr w W (34 :: (s.data.toList.take s.size).flatMap escL ++ [34])) => Tryd.Builder_String_any_k w.heap.size w.heap.size _ W h.isb h.bel.size)
      clear hel htl hL HA HW
      go_wp2_with fail
      refine (unhide HB1).mono ?_
      rintro e w2 ⟨rfl, h2⟩
      have HB2 := hide h2.bel
      have HS2 := hide (unhide HS _ h2)
      clear h2 HB1 HS
      go_wp2_with fail
      refine (unhide HS2).mono ?_
      rintro e w3 ⟨rfl, _, hb3, _⟩
      have HB3 := hide ((unhide HB2).trans hb3)
      clear hb3 HS2
      go_wp2
      go_ret2
      exact ⟨by rw [unhide HF]; rfl, unhide HB3⟩
end Go.Proofs.YtafegjbhaofgiaaDoor
