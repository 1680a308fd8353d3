/-
  What word.Encode does, over this seat's program.
-/
import Derived.Test.YtdallfakfhajdaaGreatDoorWow
import Derived.Test.YtdallfakfhajdaaGreatDoorCti
set_option linter.unusedVariables false
namespace Go.Proofs.YtdallfakfhajdaaGreatDoor
open Go.RowKit Go.Proofs.Enc Go.Proofs.Rns

/-- Letters as words, twelve at a time. -/
def encF (base : Bool) : Nat → List UInt8 → List Int → List UInt8 × Nat
  | 0, acc, _ => (acc, 0)
  | f + 1, acc, l => if l = [] then (acc, 0) else match encL 2 (l.take 12) with
    | none => ([], 7)
    | some t => encF base f ((if acc = [] then acc else acc ++ [32]) ++ wordT base t) (l.drop 12)
def encW (base : Bool) (l : List Int) : List UInt8 × Nat := encF base (l.length + 1) [] l

theorem encL_size {c : Nat} : ∀ (l : List Int) (t : List UInt8), encL c l = some t → t.length ≤ 4 * l.length
  | [], t, h => by simp [encL] at h; subst h; simp
  | n :: r, t, h => by
    simp only [encL] at h
    cases ho : encOne c n with
    | none => rw [ho] at h; simp at h
    | some a =>
      rw [ho] at h
      cases hr : encL c r with
      | none => rw [hr] at h; simp at h
      | some t' =>
        rw [hr] at h
        simp only [Option.map_some, Option.some.injEq] at h
        have h1 := encOne_len ho
        have h2 := encL_size r t' hr
        rw [← h, List.length_append, List.length_cons]
        omega

set_option maxHeartbeats 1000000 in
set_option maxRecDepth 100000 in
theorem encodeW_any (a : Option Addr) (cap : Nat) (l : List Int) (base : Bool) (w : World) (ht : RTab w) (hv : RowI w (.slice a l.length cap) l) (hc : l.length ≤ cap) (hl : l.length ≤ 40000000) :
    Calls Tryz.prog 17 #[.slice a l.length cap, .bool base] w fun e w' => e = .returned (.tuple #[.string (bts (encW base l).1), .int .i64 (encW base l).2]) ∧ Below w.heap.size w w' := by
  have HT := hide ht
  have HN := hide (Wr.new w)
  have HV := hide hv
  clear ht hv
  go_enter Tryz.func17, Tryz.ntmps17
  go_wp2
  go_loopw [0] (fun v wr => ∃ (r : List Int) (acc : List UInt8) (f : Nat) (a' : Option Addr) (cap' : Nat), v = .slice a' r.length cap' ∧ r.length ≤ cap' ∧ r.length < f ∧ r.length ≤ l.length ∧ acc.length + 200 * r.length ≤ 200 * l.length ∧ Hid (RowI w (.slice a' r.length cap') r) ∧ Hid (encW base l = encF base f acc r) ∧ Hid (Wr w wr acc)) (fun v _ => match v with | .slice _ n _ => n | _ => 0)
  case atStart => exact ⟨l, [], l.length + 1, a, cap, rfl, hc, by omega, Nat.le_refl _, by simp, HV, hide rfl, HN⟩
  case round =>
    obtain ⟨r, acc, f, a', cap', rfl, hcap, hf, hrl, hacc, HR, HE, HW⟩ := hrel
    obtain ⟨f', rfl⟩ : ∃ f', f = f' + 1 := ⟨f - 1, by omega⟩
    by_cases hr0 : r = []
    · have HF : Hid (encW base l = (acc, 0)) := hide (by rw [unhide HE]; unfold encF; rw [if_pos hr0])
      have h0 : ¬ (0 : Int) < (r.length : Int) := by rw [hr0]; simp
      have h00 : r.length = 0 := by rw [hr0]; rfl
      have HS := hide (Tryz.Builder_String_any_f _ _ _ wr (unhide HW).isb (unhide HW).bel.size)
      have HB := hide (unhide HW).bel
      clear HE HR HW hr0
      go_wp2_with fail
      refine (unhide HS).mono ?_
      rintro e w2 ⟨rfl, _, hb⟩
      have HB2 := hide ((unhide HB).trans hb)
      clear hb HS HB
      go_wp2
      go_ret2
      exact ⟨by rw [unhide HF]; rfl, unhide HB2⟩
    · have hpos : 0 < r.length := List.length_pos_iff.2 hr0
      have h0 : (0 : Int) < (r.length : Int) := by omega
      obtain ⟨m, hm⟩ : ∃ m, m = min r.length 12 := ⟨_, rfl⟩
      have hmin : min (r.length : Int) 12 = (m : Int) := by omega
      have htk : r.take 12 = r.take m := by
        by_cases h : r.length ≤ 12
        · rw [List.take_of_length_le h, List.take_of_length_le (by omega)]
        · rw [show m = 12 by omega]
      have hdk : r.drop 12 = r.drop m := by
        by_cases h : r.length ≤ 12
        · rw [List.drop_of_length_le h, List.drop_of_length_le (by omega)]
        · rw [show m = 12 by omega]
      have hu := fun W => upto_run a' r.length cap' m (by omega) W
      have hd := fun W => from_run a' r.length cap' m (by omega) W
      have HRU := hide ((cut_rowI (unhide HR) (f := 0) (t := m) (by omega) (by omega) hcap).below (unhide HW).bel)
      rw [cutI_take] at HRU
      have HRD := hide (cut_rowI (unhide HR) (f := m) (t := r.length) (by omega) (by omega) hcap)
      rw [cutI_drop] at HRD
      have HEN := hide (encode_any 2 _ (r.take m) wr ((unhide HT).below (unhide HW).bel) (unhide HRU) (by omega) (by simp; omega))
      have hsd : sliced a' m r.length cap' 1 = .slice (if cap' = m then a' else a'.map (·.add (m * 1))) (r.length - m) (cap' - m) := rfl
      have he := unhide HE
      unfold encF at he
      rw [if_neg hr0, htk, hdk] at he
      cases ho : encL 2 (r.take m) with
      | none =>
        rw [ho] at he
        have HF := hide he
        have er : encR 2 (r.take m) = ([], 7) := by unfold encR; rw [if_pos (by omega), ho]
        rw [er] at HEN
        have HB := hide (unhide HW).bel
        generalize sliced a' 0 m cap' 1 = vu at hu HEN
        clear HE HRD HRU HR hd hsd he ho er HW hr0 htk hdk hm
        go_wp2_with fail
        refine (unhide HEN).mono ?_
        rintro e w2 ⟨rfl, hb⟩
        have HB2 := hide (belows' (unhide HB) hb)
        clear hb HEN HB
        go_wp2
        go_ret2
        exact ⟨by rw [unhide HF]; rfl, unhide HB2⟩
      | some t =>
        rw [ho] at he
        have HF := hide he
        have htl := encL_size _ t ho
        rw [List.length_take] at htl
        have er : encR 2 (r.take m) = (t, 0) := by unfold encR; rw [if_pos (by omega), ho]
        rw [er] at HEN
        have hws := wordT_len base t
        generalize sliced a' 0 m cap' 1 = vu at hu HEN
        have HW1 := HW
        have m1 : 1 ≤ m := by omega
        have m2 : m ≤ r.length := by omega
        have HVD : ∃ vd, sliced a' m r.length cap' 1 = vd ∧ vd = .slice (if cap' = m then a' else a'.map (·.add (m * 1))) (r.length - m) (cap' - m) := ⟨_, rfl, rfl⟩
        obtain ⟨vd, hvd, hvd2⟩ := HVD
        rw [hvd] at hd HRD
        have HVD2 := hide hvd2
        clear HE HRU HR he ho er HW hr0 htk hdk hsd hm hvd hvd2
        go_wp2_with fail
        refine (unhide HEN).mono ?_
        rintro e w2 ⟨rfl, hb⟩
        have hw2 := (unhide HW1).below hb
        have HLN := hide (Tryz.Builder_Len_f _ _ _ w2 hw2.isb)
        rw [Lib.byteCells_length] at HLN
        have HW2 := hide hw2
        clear hb hw2 HEN HW1
        go_wp2_with fail
        refine (unhide HLN).mono ?_
        rintro e w3 ⟨rfl, h3⟩
        subst h3
        clear HLN
        by_cases ha : acc = []
        · have hz : ¬ (0 : Int) < (acc.length : Int) := by rw [ha]; simp
          have hz0 : acc.length = 0 := by rw [ha]; rfl
          have HWW := hide (writeWord_any (unhide HW2) (bts t) base (by rw [size_bts]; omega))
          rw [toList_bts] at HWW
          have HF2 : Hid (encW base l = encF base f' (acc ++ wordT base t) (r.drop m)) := hide (by rw [unhide HF, if_pos ha])
          generalize bts t = tb at HWW ⊢
          clear HF HW2 ha
          go_wp2_with fail
          refine (unhide HWW).mono ?_
          rintro e w4 ⟨rfl, h4⟩
          have H4 := hide h4
          clear h4 HWW
          go_wp2
          refine ⟨⟨r.drop m, acc ++ wordT base t, f', (if cap' = m then a' else a'.map (·.add (m * 1))), cap' - m, by rw [unhide HVD2, List.length_drop], by rw [List.length_drop]; omega, by rw [List.length_drop]; omega, by rw [List.length_drop]; omega, ?_, ?_, HF2, H4⟩, ?_⟩
          · simp only [List.length_drop, List.length_append]
            omega
          · have := unhide HRD
            rw [unhide HVD2] at this
            rw [List.length_drop]
            exact this
          · rw [unhide HVD2]
            simp
            omega
        · have hz : (0 : Int) < (acc.length : Int) := by have := List.length_pos_iff.2 ha; omega
          have HSP := hide (wByte (unhide HW2) 32 32 rfl (by omega))
          have HF2 : Hid (encW base l = encF base f' (acc ++ [32] ++ wordT base t) (r.drop m)) := hide (by rw [unhide HF, if_neg ha])
          clear HF HW2 ha
          go_wp2_with fail
          refine (unhide HSP).mono ?_
          rintro e w5 ⟨rfl, h5⟩
          have HWW := hide (writeWord_any h5 (bts t) base (by rw [size_bts, List.length_append, List.length_singleton]; omega))
          rw [toList_bts] at HWW
          generalize bts t = tb at HWW ⊢
          clear h5 HSP
          go_wp2_with fail
          refine (unhide HWW).mono ?_
          rintro e w4 ⟨rfl, h4⟩
          have H4 := hide h4
          clear h4 HWW
          go_wp2
          refine ⟨⟨r.drop m, acc ++ [32] ++ wordT base t, f', (if cap' = m then a' else a'.map (·.add (m * 1))), cap' - m, by rw [unhide HVD2, List.length_drop], by rw [List.length_drop]; omega, by rw [List.length_drop]; omega, by rw [List.length_drop]; omega, ?_, ?_, HF2, H4⟩, ?_⟩
          · simp only [List.length_drop, List.length_append, List.length_singleton]
            omega
          · have := unhide HRD
            rw [unhide HVD2] at this
            rw [List.length_drop]
            exact this
          · rw [unhide HVD2]
            simp
            omega
end Go.Proofs.YtdallfakfhajdaaGreatDoor
