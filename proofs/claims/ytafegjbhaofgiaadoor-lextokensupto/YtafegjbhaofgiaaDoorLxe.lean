/-
  What lex.literal and first do, over this seat's program.
-/
import Derived.Test.YtafegjbhaofgiaaDoorLxd
import Derived.Test.YtafegjbhaofgiaaDoorCts
set_option linter.unusedVariables false
namespace Go.Proofs.YtafegjbhaofgiaaDoor
open Go.RowKit Go.Proofs.Lx

theorem cutAt_eq (k : UInt8) : ∀ l : List UInt8, cutAt k l = cutB k l
  | [] => rfl
  | c :: r => by simp only [cutAt, cutB, cutAt_eq k r]
theorem lcut_any (s : ByteArray) (w : World) (hs : s.size ≤ 281474976710656) :
    Calls Tryd.prog 58 #[.string s, .string ⟨#[10]⟩] w fun e w' => e = .returned (match cutB 10 s.data.toList with | none => .tuple #[.string s, .string ⟨#[]⟩, .bool false] | some (n, v) => .tuple #[.string (bts n), .string (bts v), .bool true]) ∧ Below w.heap.size w w' := by
  refine (cut1_any 10 s w hs).mono ?_
  rintro e w' ⟨rfl, q, rfl⟩
  rw [cutAt_eq]
  exact ⟨rfl, below_drewN (Below.refl _ _) _⟩
theorem lclone_any (s : ByteArray) (w : World) (hs : s.size ≤ 281474976710656) :
    Calls Tryd.prog 23 #[.string s] w fun e w' => e = .returned (.string s) ∧ Below w.heap.size w w' := by
  have hc := Tryd.stringslite_Clone s w (by omega)
  go_enter Tryd.func23, Tryd.ntmps23
  go_wp2_with fail
  refine hc.mono ?_
  rintro e w1 ⟨rfl, hb⟩
  go_wp2
  go_ret
  exact ⟨rfl, hb⟩

/-- What is read of a literal, or nothing, as Go tells it. -/
def litV (o : Option (List UInt8 × Nat)) : Value := match o with
  | some p => .tuple #[.string (bts p.1), .int .i64 (p.2 : Int)]
  | none => .tuple #[.string ⟨#[]⟩, .int .i64 0]
theorem trimE_head {l : List UInt8} (h : l.head? = some 123) : 1 ≤ (trimE l 13).length := by
  cases l with
  | nil => simp at h
  | cons c r =>
    simp at h; subst h
    unfold trimE
    cases r with
    | nil => simp
    | cons d r => split <;> simp
theorem cutB_head {l n v : List UInt8} (h : cutB 10 l = some (n, v)) (hh : l.head? = some 123) : n.head? = some 123 := by
  obtain ⟨h1, h2⟩ := cutB_some h
  cases n with
  | nil => rw [h1] at hh; simp at hh
  | cons c r => rw [h1] at hh; simpa using hh

set_option maxHeartbeats 2000000 in
set_option maxRecDepth 100000 in
theorem literal_any (s : ByteArray) (w : World) (hh : s.data.toList.head? = some 123) (hs : s.size ≤ 1099511627000) :
    Calls Tryd.prog 45 #[.string s] w fun e w' => e = .returned (litV (litA s.data.toList)) ∧ Below w.heap.size w w' := by
  have HC := hide (fun W => lcut_any s W (by omega))
  have hsz := sizeL s
  cases hc : cutB 10 s.data.toList with
  | none =>
    rw [hc] at HC
    have HT := hide (fun W => trimSuffix_any s 13 W (by omega))
    have h1 := trimE_head hh
    have h2 := trimE_len s.data.toList 13
    have HN := hide (fun W => announced_any (bts (trimE s.data.toList 13)) W (by rw [size_bts]; exact h1) (by rw [size_bts]; omega))
    have HF : Hid (litA s.data.toList = none) := hide (by rw [litA, hc])
    rw [toList_bts] at HN
    generalize annB _ = o at HN
    generalize bts (trimE s.data.toList 13) = d at HT HN
    have hq : ((s.size : Int) - 0 == (s.size : Int)) = true := by simp
    clear hc h1 h2 hh hsz
    cases o with
    | none =>
      go_enter Tryd.func45, Tryd.ntmps45
      go_wp2_with fail
      refine (unhide HC _).mono ?_
      rintro e w1 ⟨rfl, b1⟩
      have B1 := hide b1
      clear b1
      go_wp2_with fail
      refine (unhide HT _).mono ?_
      rintro e w2 ⟨rfl, h2⟩
      subst h2
      go_wp2_with fail
      refine (unhide HN _).mono ?_
      rintro e w2 ⟨rfl, h2⟩
      subst h2
      simp only [annV]
      go_wp2
      go_ret2
      exact ⟨by rw [unhide HF]; rfl, unhide B1⟩
    | some n =>
      go_enter Tryd.func45, Tryd.ntmps45
      go_wp2_with fail
      refine (unhide HC _).mono ?_
      rintro e w1 ⟨rfl, b1⟩
      have B1 := hide b1
      clear b1
      go_wp2_with fail
      refine (unhide HT _).mono ?_
      rintro e w2 ⟨rfl, h2⟩
      subst h2
      go_wp2_with fail
      refine (unhide HN _).mono ?_
      rintro e w2 ⟨rfl, h2⟩
      subst h2
      simp only [annV]
      go_wp2
      go_ret2
      exact ⟨by rw [unhide HF]; rfl, unhide B1⟩
  | some p =>
    obtain ⟨l0, more⟩ := p
    rw [hc] at HC
    obtain ⟨hr, _⟩ := cutB_some hc
    have h1 := trimE_head (cutB_head hc hh)
    have h2 := trimE_len l0 13
    have hlen : s.size = l0.length + 1 + more.length := by rw [← hsz, hr]; simp; omega
    have HT := hide (fun W => trimSuffix_any (bts l0) 13 W (by rw [size_bts]; omega))
    rw [toList_bts] at HT
    have HN := hide (fun W => announced_any (bts (trimE l0 13)) W (by rw [size_bts]; exact h1) (by rw [size_bts]; omega))
    rw [toList_bts] at HN
    have hlt := fun m => annB_lt (r := (trimE l0 13).drop 1) (m := m)
    have HL : Hid (litA s.data.toList = match annB ((trimE l0 13).drop 1) with | none => none | some b => if more.length < b then none else some (more.take b, l0.length + 1 + b)) := hide (by
      rw [litA, hc]; rfl)
    generalize annB ((trimE l0 13).drop 1) = o at HN hlt HL
    generalize bts (trimE l0 13) = d at HT HN
    obtain ⟨D, hD⟩ : ∃ D, D = bts l0 := ⟨_, rfl⟩
    obtain ⟨M, hM⟩ : ∃ M, M = bts more := ⟨_, rfl⟩
    have hDz : D.size = l0.length := by rw [hD, size_bts]
    have hMz : M.size = more.length := by rw [hM, size_bts]
    have hMl : M.data.toList = more := by rw [hM, toList_bts]
    simp only at HC
    rw [← hD, ← hM] at HC
    rw [← hD] at HT
    rw [← hDz, ← hMz] at hlen
    rw [← hMl, ← hDz, hMl, ← hMz] at HL
    clear hD hM hDz hr hc h1 h2 hh
    have hq : ((s.size : Int) - (M.size : Int) == (D.size : Int)) = false := by rw [beq_eq_false_iff_ne]; omega
    have hle : M.size ≤ s.size := by omega
    have HLEN := hide hlen
    have hbm : decide (M.size < 0) = false := by simp
    clear hlen hbm
    cases o with
    | none =>
      have HF : Hid (litA s.data.toList = none) := hide (unhide HL)
      clear HL hlt hsz hMz hMl
      go_enter Tryd.func45, Tryd.ntmps45
      go_wp2_with fail
      refine (unhide HC _).mono ?_
      rintro e w1 ⟨rfl, b1⟩
      have B1 := hide b1
      clear b1
      go_wp2_with fail
      refine (unhide HT _).mono ?_
      rintro e w2 ⟨rfl, h2⟩
      subst h2
      go_wp2_with fail
      refine (unhide HN _).mono ?_
      rintro e w2 ⟨rfl, h2⟩
      subst h2
      simp only [annV]
      go_wp2
      go_ret2
      exact ⟨by rw [unhide HF]; rfl, unhide B1⟩
    | some n =>
      have hn := hlt n rfl
      have hL := unhide HL
      simp only at hL
      by_cases hm : M.size < n
      · rw [if_pos hm] at hL
        have HF : Hid (litA s.data.toList = none) := hide hL
        have hm' : (M.size : Int) < (n : Int) := by omega
        clear HL hL hlt hsz hMz hMl
        go_enter Tryd.func45, Tryd.ntmps45
        go_wp2_with fail
        refine (unhide HC _).mono ?_
        rintro e w1 ⟨rfl, b1⟩
        have B1 := hide b1
        clear b1
        go_wp2_with fail
        refine (unhide HT _).mono ?_
        rintro e w2 ⟨rfl, h2⟩
        subst h2
        go_wp2_with fail
        refine (unhide HN _).mono ?_
        rintro e w2 ⟨rfl, h2⟩
        subst h2
        simp only [annV]
        go_wp2
        go_ret2
        exact ⟨by rw [unhide HF]; rfl, unhide B1⟩
      · rw [if_neg hm] at hL
        have hm' : ¬ (M.size : Int) < (n : Int) := by omega
        obtain ⟨r, hr⟩ : ∃ r, r = M.extract 0 n := ⟨_, rfl⟩
        have hsl : ∀ W, (Instr.slice 9 (.string M) none (some (.int .i64 (n : Int))) none).run Tryd.prog W = .ok (.string r) W := fun W => by rw [hr]; exact slice_upto M n n rfl (by omega) W
        have hrl : bts (more.take n) = r := by
          apply ext_list
          rw [toList_bts, hr, toList_upto, hMl]
        have hrz : r.size ≤ 281474976710656 := by rw [hr, ByteArray.size_extract]; omega
        have HK := hide (fun W => lclone_any r W hrz)
        have HF : Hid (litV (litA s.data.toList) = .tuple #[.string r, .int .i64 ((D.size + 1 + n : Nat) : Int)]) := hide (by rw [hL]; simp only [litV]; rw [hrl])
        clear HL hL hlt hsz hr hrl hrz hMl hMz
        go_enter Tryd.func45, Tryd.ntmps45
        go_wp2_with fail
        refine (unhide HC _).mono ?_
        rintro e w1 ⟨rfl, b1⟩
        have B1 := hide b1
        clear b1
        go_wp2_with fail
        refine (unhide HT _).mono ?_
        rintro e w2 ⟨rfl, h2⟩
        subst h2
        go_wp2_with fail
        refine (unhide HN _).mono ?_
        rintro e w2 ⟨rfl, h2⟩
        subst h2
        simp only [annV]
        go_wp2_with fail
        refine (unhide HK _).mono ?_
        rintro e w3 ⟨rfl, b3⟩
        have B3 := hide ((unhide B1).trans (b3.mono (unhide B1).size))
        clear b3
        go_wp2
        go_ret2
        have hfin : (s.size : Int) - (M.size : Int) + (n : Int) = ((D.size + 1 + n : Nat) : Int) := by have := unhide HLEN; omega
        exact ⟨by rw [unhide HF, hfin]; rfl, unhide B3⟩
end Go.Proofs.YtafegjbhaofgiaaDoor
