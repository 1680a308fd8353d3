/-
  What mime's tokenSize, isToken, isType, small, smallOr and firstLine do, over this seat's program.
-/
import Derived.Test.YtedpimhhbajljaaGreatDoorMim
import Derived.Test.YtedpimhhbajljaaGreatDoorHsm
import Derived.Test.YtedpimhhbajljaaGreatDoorWrb
set_option linter.unusedVariables false
set_option linter.unusedSimpArgs false
namespace Go.Proofs.YtedpimhhbajljaaGreatDoor
open Go.RowKit Go.Proofs.Hed

theorem byte_back (c : UInt8) : ((c.toNat : Int).toNat.toUInt8) = c := by simp
theorem sp_bytes : (ByteArray.mk #[40, 41, 60, 62, 64, 44, 59, 58, 92, 34, 47, 91, 93, 63, 61]).data.toList = spL := rfl

set_option maxHeartbeats 1000000 in
set_option maxRecDepth 100000 in
/-- How many bytes the token has that a text begins with. -/
theorem tokenSize_any (s : ByteArray) (w : World) (hs : s.size ≤ 281474976710656) :
    Calls Tryz.prog 59 #[.string s] w fun e w' => e = .returned (.int .i64 (tokN s.data.toList : Int)) ∧ w' = w := by
  have hsl := sizeL s
  have HI := hide (fun (c : UInt8) W => Tryz.strings_IndexByte ⟨#[40, 41, 60, 62, 64, 44, 59, 58, 92, 34, 47, 91, 93, 63, 61]⟩ (c.toNat : Int) W)
  simp only [byte_back] at HI
  go_enter Tryz.func59, Tryz.ntmps59
  go_wp2
  go_loopw [3, 6] (fun y z wr => ∃ k : Nat, z = .int .i64 k ∧ k ≤ s.size ∧ Hid (∀ j (hj : j < s.data.toList.length), j < k → tokB s.data.toList[j] = true) ∧ wr = w) (fun _ z _ => s.size - (intOf z).toNat)
  case atStart => exact ⟨0, rfl, by omega, hide (fun j _ h => by omega), rfl⟩
  case round =>
    obtain ⟨k, rfl, hk, HT, rfl⟩ := hrel
    by_cases hlt : k < s.size
    · have hlt1 : (k : Int) < (s.size : Int) := by omega
      have hkl : k < s.data.toList.length := by omega
      have hge : s.data.toList[k] = s[k] := rfl
      have HIX := hide (unhide HI s[k])
      have hsp : decide (Lib.indexByte [40, 41, 60, 62, 64, 44, 59, 58, 92, 34, 47, 91, 93, 63, 61] s[k] ≥ 0) = spL.contains s[k] := index_sp s[k]
      have HBAD : Hid (tokB s[k] = false → tokN s.data.toList = k) := hide (fun h => tokN_at _ k hkl (unhide HT) (by rw [hge]; exact h))
      have HNX : Hid (tokB s[k] = true → ∀ j (hj : j < s.data.toList.length), j < k + 1 → tokB s.data.toList[j] = true) := hide (fun h j hj hjk => by
        rcases Nat.lt_or_ge j k with h1 | h1
        · exact unhide HT j hj h1
        · obtain rfl : j = k := by omega
          rw [hge]; exact h)
      have htb : tokB s[k] = (decide (33 ≤ s[k].toNat ∧ s[k].toNat ≤ 126) && !spL.contains s[k]) := rfl
      rw [← hsp] at htb
      generalize Lib.indexByte [40, 41, 60, 62, 64, 44, 59, 58, 92, 34, 47, 91, 93, 63, 61] s[k] = ix at HIX htb
      clear hge hsp HT
      obtain ⟨x, hx⟩ : ∃ x, s[k].toNat = x := ⟨_, rfl⟩
      rw [hx] at htb HIX
      by_cases a1 : x < 33
      · have HF := hide (unhide HBAD (by rw [htb, decide_eq_false (by omega)]; rfl))
        have e1 : (x : Int) < 33 := by omega
        clear HBAD HNX htb HIX
        go_wp2
        go_ret
        exact ⟨by rw [unhide HF]; rfl, rfl⟩
      · have e1 : ¬ (x : Int) < 33 := by omega
        by_cases a2 : 126 < x
        · have HF := hide (unhide HBAD (by rw [htb, decide_eq_false (by omega)]; rfl))
          have e2 : 126 < (x : Int) := by omega
          clear HBAD HNX htb HIX
          go_wp2
          go_ret
          exact ⟨by rw [unhide HF]; rfl, rfl⟩
        · have e2 : ¬ 126 < (x : Int) := by omega
          rw [decide_eq_true (by omega), Bool.true_and] at htb
          by_cases a3 : ix ≥ 0
          · have HF := hide (unhide HBAD (by rw [htb, decide_eq_true a3]; rfl))
            have e3 : decide (0 ≤ ix) = true := decide_eq_true a3
            clear HBAD HNX htb
            go_wp2_with fail
            refine (unhide HIX _).mono ?_
            rintro e w1 ⟨rfl, rfl⟩
            go_wp2
            go_ret
            exact ⟨by rw [unhide HF]; rfl, rfl⟩
          · have HN2 := hide (unhide HNX (by rw [htb, decide_eq_false a3]; rfl))
            have e3 : decide (0 ≤ ix) = false := decide_eq_false a3
            clear HBAD HNX htb
            go_wp2_with fail
            refine (unhide HIX _).mono ?_
            rintro e w1 ⟨rfl, rfl⟩
            go_wp2
            exact ⟨⟨k + 1, by go_num, by omega, HN2, trivial⟩, by simp [intOf]; omega⟩
    · have hlt1 : ¬ (k : Int) < (s.size : Int) := by omega
      have HF := hide (tokN_all s.data.toList (fun j hj => unhide HT j hj (by omega)))
      clear HT
      go_wp2
      go_ret
      exact ⟨by rw [unhide HF, hsl]; rfl, rfl⟩

set_option maxHeartbeats 1000000 in
theorem isToken_any (s : ByteArray) (w : World) (hs : s.size ≤ 281474976710656) :
    Calls Tryz.prog 34 #[.string s] w fun e w' => e = .returned (.bool (isTokL s.data.toList)) ∧ w' = w := by
  have hsl := sizeL s
  have HT := hide (fun W => tokenSize_any s W hs)
  by_cases h0 : s.size = 0
  · have he : s = ⟨#[]⟩ := ext_list (by have : s.data.toList = [] := List.eq_nil_of_length_eq_zero (by omega); rw [this])
    subst he
    go_enter Tryz.func34, Tryz.ntmps34
    go_wp2
    go_ret
    exact ⟨rfl, rfl⟩
  · have hne : s.toList.isEmpty = false := by rw [empty_size]; simpa using h0
    have hfin : isTokL s.data.toList = decide (tokN s.data.toList = s.size) := by
      unfold isTokL
      rw [hsl]
      have : s.data.toList.isEmpty = false := by
        cases hl : s.data.toList with
        | nil => rw [hl] at hsl; simp at hsl; omega
        | cons c r => rfl
      rw [this]; rfl
    rw [hfin]
    have hle := tokN_le s.data.toList
    generalize tokN s.data.toList = tn at HT hle ⊢
    have hcmp : ((tn : Int) == (s.size : Int)) = decide (tn = s.size) := by
      by_cases h : tn = s.size
      · simp [h]
      · rw [decide_eq_false h]; simp; omega
    have HC := hide hcmp
    clear hfin hcmp
    go_enter Tryz.func34, Tryz.ntmps34
    go_wp2_with fail
    refine (unhide HT _).mono ?_
    rintro e w1 ⟨rfl, rfl⟩
    go_wp2
    go_ret
    exact ⟨by rw [← unhide HC]; rfl, rfl⟩

set_option maxHeartbeats 1000000 in
theorem isType_any (s : ByteArray) (w : World) (hs : s.size ≤ 281474976710656) :
    Calls Tryz.prog 12 #[.string s] w fun e w' => e = .returned (.bool (isTypL s.data.toList)) ∧ ∃ q, w' = w.drewN q := by
  have HC := hide (cut1_any 47 s w hs)
  have hsl := sizeL s
  unfold isTypL
  cases hc : cutAt 47 s.data.toList with
  | none =>
    rw [hc] at HC
    simp only at HC ⊢
    clear hc
    go_enter Tryz.func12, Tryz.ntmps12
    go_wp2_with fail
    refine (unhide HC).mono ?_
    rintro e w1 ⟨rfl, q, rfl⟩
    go_wp2
    go_ret
    exact ⟨rfl, q, rfl⟩
  | some p =>
    obtain ⟨a, b⟩ := p
    have hix := index_cut 47 s.data.toList
    rw [hc] at hix HC
    obtain ⟨_, h2⟩ := hix
    have hl : a.length + 1 + b.length = s.size := by rw [← hsl, h2]; simp; omega
    have HA := hide (fun W => isToken_any (bts a) W (by rw [size_bts]; omega))
    have HB := hide (fun W => isToken_any (bts b) W (by rw [size_bts]; omega))
    rw [toList_bts] at HA HB
    simp only at HC ⊢
    generalize isTokL a = ta at HA ⊢
    generalize isTokL b = tb at HB ⊢
    clear hc h2 hl
    go_enter Tryz.func12, Tryz.ntmps12
    go_wp2_with fail
    refine (unhide HC).mono ?_
    rintro e w1 ⟨rfl, q, rfl⟩
    go_wp2_with fail
    refine (unhide HA _).mono ?_
    rintro e w1 ⟨rfl, h1⟩
    subst h1
    cases ta with
    | false =>
      go_wp2
      go_ret
      exact ⟨rfl, q, rfl⟩
    | true =>
      go_wp2_with fail
      refine (unhide HB _).mono ?_
      rintro e w2 ⟨rfl, h2⟩
      subst h2
      go_wp2
      go_ret
      exact ⟨rfl, q, rfl⟩
end Go.Proofs.YtedpimhhbajljaaGreatDoor
