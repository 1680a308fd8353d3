/-
  The walk of word.readWord, over this seat's program.
-/
import Derived.Test.YtdallfakfhajdaaGreatDoorWrw
set_option linter.unusedVariables false
namespace Go.Proofs.YtdallfakfhajdaaGreatDoor
open Go.RowKit Go.Proofs.Enc Go.Proofs.Rns

theorem own_none (w : World) (B e : Nat) : w.ownsRow B e 1 (.slice none 0 0) ([] : List Nat).length (runeC []) := ⟨rfl, Or.inl ⟨rfl, rfl⟩⟩
theorem size_cutD1 (k : UInt8) (l : List UInt8) : (bts (cutD k l).1).size ≤ l.length := by have := cutD_len k l; rw [size_bts]; omega
theorem size_cutD2 (k : UInt8) (l : List UInt8) : (bts (cutD k l).2).size ≤ l.length := by have := cutD_len k l; rw [size_bts]; omega

theorem named_lt (l : List UInt8) : (namedR l).1 < 256 := by
  have h : ∀ (u : List UInt8) (t : List (List UInt8 × Nat)), (∀ p ∈ t, p.2 < 256) → (namedF u t).1 < 256 := by
    intro u t
    induction t with
    | nil => intro _; simp [namedF]
    | cons p r ih =>
      intro hp
      unfold namedF
      split
      · exact hp p (by simp)
      · exact ih (fun q hq => hp q (by simp [hq]))
  exact h _ _ (by decide +kernel)

theorem named_no (l : List UInt8) : (namedR l).2 = 0 ∨ (namedR l).2 = 14 := by
  have h : ∀ (u : List UInt8) (t : List (List UInt8 × Nat)), (namedF u t).2 = 0 ∨ (namedF u t).2 = 14 := by
    intro u t
    induction t with
    | nil => simp [namedF]
    | cons p r ih =>
      unfold namedF
      split
      · exact Or.inl rfl
      · exact ih
  exact h _ _

set_option maxHeartbeats 4000000 in
set_option maxRecDepth 100000 in
theorem readWord_any (s : ByteArray) (w : World) (ht : RTabN w) (hes : ErrS w) (hs : s.size ≤ 40000000) :
    Calls Tryz.prog 27 #[.string s] w fun e w' => ∃ v, e = .returned (.tuple #[v, .int .i64 (rdN (rdW s.data.toList))]) ∧ w'.ownsRow w.heap.size 21 1 v (rdL (rdW s.data.toList)).length (runeC (rdL (rdW s.data.toList))) ∧ Below w.heap.size w w' := by
  have H0 := hide (cutOpen_any s w)
  have HT := hide ht
  have HES := hide hes
  clear ht hes
  cases ho : opW s.data.toList with
  | none =>
    rw [ho] at H0
    simp only [bts] at H0
    have HF : Hid (rdW s.data.toList = none) := hide (by unfold rdW; rw [ho])
    clear ho
    go_enter Tryz.func27, Tryz.ntmps27
    go_wp2_with fail
    refine (unhide H0).mono ?_
    rintro e w1 ⟨rfl, h1⟩
    subst h1
    clear H0
    go_wp2
    go_ret2
    exact ⟨_, by rw [unhide HF]; rfl, by rw [unhide HF]; exact own_none _ _ _, Below.refl _ _⟩
  | some r =>
    rw [ho] at H0
    simp only at H0
    obtain ⟨hr, hl2⟩ := opW_some ho
    have hrl : r.length ≤ s.size := by rw [hr, List.length_drop, sizeL]; omega
    have HF : Hid (rdW s.data.toList = rdP s.size (partsW r)) := hide (by unfold rdW; rw [ho, sizeL])
    have l1 := cutD_len 63 r
    have l2 := cutD_len 63 (cutD 63 r).2
    have l3 := cutD_len 63 (cutD 63 (cutD 63 r).2).2
    have HC1 := hide (fun W => cutD_any 63 (bts r) W (by rw [size_bts]; omega))
    have HC2 := hide (fun W => cutD_any 63 (bts (cutD 63 r).2) W (by rw [size_bts]; omega))
    have HC3 := hide (fun W => cutD_any 63 (bts (cutD 63 (cutD 63 r).2).2) W (by rw [size_bts]; omega))
    rw [toList_bts] at HC1 HC2 HC3
    obtain ⟨nm, hnm⟩ : ∃ x, x = (cutD 63 r).1 := ⟨_, rfl⟩
    obtain ⟨cd, hcd⟩ : ∃ x, x = (cutD 63 (cutD 63 r).2).1 := ⟨_, rfl⟩
    obtain ⟨tx, htx⟩ : ∃ x, x = (cutD 63 (cutD 63 (cutD 63 r).2).2).1 := ⟨_, rfl⟩
    obtain ⟨bh, hbh⟩ : ∃ x, x = (cutD 63 (cutD 63 (cutD 63 r).2).2).2 := ⟨_, rfl⟩
    have hpw : partsW r = ⟨nm, cd, tx, bh⟩ := by unfold partsW; rw [hnm, hcd, htx, hbh]
    rw [hpw] at HF
    rw [← hnm] at HC1 l1
    rw [← hcd] at HC2 l2
    rw [← htx, ← hbh] at HC3 l3
    have n1 : nm.length ≤ 40000000 := by omega
    have n2 : cd.length ≤ 40000000 := by omega
    have n3 : tx.length ≤ 40000000 := by omega
    have n4 : bh.length ≤ s.size := by omega
    have HCP := hide (fun W => cutPrefix_any (bts bh) 61 W (by rw [size_bts]; omega))
    rw [toList_bts] at HCP
    have HP1 := hide (fun W => isPlain_any (bts nm) W (by rw [size_bts]; omega))
    have HP3 := hide (fun W => isPlain_any (bts tx) W (by rw [size_bts]; omega))
    rw [toList_bts] at HP1 HP3
    have HST := hide (fun W => cutD_any 42 (bts nm) W (by rw [size_bts]; omega))
    rw [toList_bts] at HST
    have HNM := hide (fun W (h : RTabN W) => named_any (bts (cutD 42 nm).1) W h (by have := size_cutD1 42 nm; omega))
    rw [toList_bts] at HNM
    have HFT := hide (fun W (h : ErrS W) => fromText_any (bts cd) (bts tx) W (by rw [size_bts]; omega) (by rw [size_bts]; omega) h)
    rw [toList_bts, toList_bts] at HFT
    have HSET : Hid (setW ⟨nm, cd, tx, bh⟩ = namedR (cutD 42 nm).1) := hide rfl
    obtain ⟨nr, hnr⟩ : ∃ nr, nr = namedR (cutD 42 nm).1 := ⟨_, rfl⟩
    rw [← hnr] at HNM HSET
    have hnr1 : nr.1 < 256 := by rw [hnr]; exact named_lt _
    have hnr2 : nr.2 = 0 ∨ nr.2 = 14 := by rw [hnr]; exact named_no _
    generalize bts (cutD 63 r).2 = y1 at HC1 HC2
    generalize bts (cutD 63 (cutD 63 r).2).2 = y2 at HC2 HC3
    generalize bts (cutD 42 nm).2 = y4 at HST
    generalize bts (cutD 42 nm).1 = x4 at HST HNM
    have hzb := size_bts bh
    generalize bts bh = y3 at HC3 HCP hzb
    generalize bts r = R0 at H0 HC1
    generalize bts nm = x1 at HC1 HP1 HST
    generalize bts cd = x2 at HC2 HFT
    generalize bts tx = x3 at HC3 HP3 HFT
    clear ho hr hl2 hrl l1 l2 l3 hnm hcd htx hbh hpw hnr
    obtain ⟨c0, e0⟩ := nr
    simp only at HNM hnr1 hnr2
    simp only [bts] at H0
    go_enter Tryz.func27, Tryz.ntmps27
    go_wp2_with fail
    refine (unhide H0).mono ?_
    rintro e w1 ⟨rfl, h1⟩
    subst h1
    clear H0
    go_wp2_with fail
    refine (unhide HC1 _).mono ?_
    rintro e w2 ⟨⟨b1, rfl⟩, hb⟩
    have HB2 := hide hb
    clear hb HC1
    go_wp2_with fail
    refine (unhide HC2 _).mono ?_
    rintro e w3 ⟨⟨b2, rfl⟩, hb⟩
    have HB3 := hide (belows' (unhide HB2) hb)
    clear hb HC2 HB2
    go_wp2_with fail
    refine (unhide HC3 _).mono ?_
    rintro e w4 ⟨⟨b3, rfl⟩, hb⟩
    have HB4 := hide (belows' (unhide HB3) hb)
    clear hb HC3 HB3
    by_cases hcl : bh.head? = some 61
    · rw [if_pos hcl, decide_eq_true hcl] at HCP
      have hbp : 1 ≤ bh.length := by
        cases bh with
        | nil => simp at hcl
        | cons a t => simp
      have hxe : (y3.extract 1 y3.size).size = bh.length - 1 := by rw [size_part _ _ _ (Nat.le_refl _), hzb]
      generalize y3.extract 1 y3.size = rs at HCP hxe
      simp only [bts] at HCP
      go_wp2_with fail
      refine (unhide HCP _).mono ?_
      rintro e _ ⟨rfl, rfl⟩
      clear HCP
      by_cases hp1 : plL nm = true
      · rw [hp1] at HP1
        go_wp2_with fail
        refine (unhide HP1 _).mono ?_
        rintro e _ ⟨rfl, rfl⟩
        clear HP1
        by_cases hp2 : plL tx = true
        · rw [hp2] at HP3
          go_wp2_with fail
          refine (unhide HP3 _).mono ?_
          rintro e _ ⟨rfl, rfl⟩
          clear HP3
          go_wp2_with fail
          refine (unhide HST _).mono ?_
          rintro e w5 ⟨⟨b4, rfl⟩, hb⟩
          have HB5 := hide (belows' (unhide HB4) hb)
          clear hb HST HB4
          go_wp2_with fail
          refine (unhide HNM _ ((unhide HT).below (unhide HB5))).mono ?_
          rintro e w6 ⟨rfl, hb⟩
          have HB6 := hide (belows' (unhide HB5) hb)
          clear hb HNM HB5
          go_wp2_with fail
          rcases hnr2 with h0 | h14
          · subst h0
            cases htr : textR cd tx with
            | none =>
              rw [htr] at HFT
              have HF2 : Hid (rdW s.data.toList = none) := hide (by rw [unhide HF]; unfold rdP; rw [if_pos ⟨hcl, hp1, hp2⟩, unhide HSET, if_pos rfl]; simp only [htr])
              refine (unhide HFT _ ((unhide HES).below (unhide HB6))).mono ?_
              rintro e w7 ⟨rfl, hb⟩
              have HB7 := hide (belows' (unhide HB6) hb)
              clear hb HFT HB6 htr
              simp only [optS]
              go_wp2
              go_ret2
              exact ⟨_, by rw [unhide HF2]; rfl, by rw [unhide HF2]; exact own_none _ _ _, unhide HB7⟩
            | some b =>
              have hbl := textR_len htr
              rw [htr] at HFT
              have HF2 : Hid (rdW s.data.toList = some ((decR c0 b).1, s.size - (bh.length - 1))) := hide (by rw [unhide HF]; unfold rdP; rw [if_pos ⟨hcl, hp1, hp2⟩, unhide HSET, if_pos rfl]; simp only [htr])
              have HDC := hide (fun W (h : RTab W) => decode_any c0 (bts b) W h hnr1 (by rw [size_bts]; omega))
              rw [toList_bts] at HDC
              simp only [optS] at HFT
              generalize bts b = B0 at HFT HDC
              refine (unhide HFT _ ((unhide HES).below (unhide HB6))).mono ?_
              rintro e w7 ⟨rfl, hb⟩
              have HB7 := hide (belows' (unhide HB6) hb)
              clear hb HFT HB6 htr
              go_wp2_with fail
              refine (unhide HDC _ ((unhide HT).below (unhide HB7)).1).mono ?_
              rintro e w8 ⟨v, rfl, ho, hb⟩
              have HB8 := hide (belows' (unhide HB7) hb)
              have HO := hide (ho.mono (unhide HB7).size)
              clear hb ho HDC HB7
              go_wp2
              go_ret2
              refine ⟨v, ?_, ?_, unhide HB8⟩
              · rw [unhide HF2]
                have he : ((s.size : Int) - ((bh.length - 1 : Nat) : Int)) = ((s.size - (bh.length - 1) : Nat) : Int) := by omega
                show Ending.returned (.tuple #[v, .int .i64 ((s.size : Int) - ((bh.length - 1 : Nat) : Int))]) = Ending.returned (.tuple #[v, .int .i64 ((s.size - (bh.length - 1) : Nat) : Int)])
                rw [he]
              · rw [unhide HF2]
                exact unhide HO
          · subst h14
            have HF2 : Hid (rdW s.data.toList = none) := hide (by rw [unhide HF]; unfold rdP; rw [if_pos ⟨hcl, hp1, hp2⟩, unhide HSET, if_neg (by simp)])
            refine (unhide HFT _ ((unhide HES).below (unhide HB6))).mono ?_
            rintro e w7 ⟨rfl, hb⟩
            have HB7 := hide (belows' (unhide HB6) hb)
            clear hb HFT HB6
            obtain ⟨y, b5, hy⟩ : ∃ y b5, optS (textR cd tx) = .tuple #[.string y, .bool b5] := by
              cases textR cd tx with
              | none => exact ⟨_, _, rfl⟩
              | some b => exact ⟨_, _, rfl⟩
            rw [hy]
            clear hy
            go_wp2
            go_ret2
            exact ⟨_, by rw [unhide HF2]; rfl, by rw [unhide HF2]; exact own_none _ _ _, unhide HB7⟩
        · have hp2' : plL tx = false := by simpa using hp2
          rw [hp2'] at HP3
          have HF2 : Hid (rdW s.data.toList = none) := hide (by rw [unhide HF]; unfold rdP; rw [if_neg (by rintro ⟨_, _, h⟩; exact hp2 h)])
          go_wp2_with fail
          refine (unhide HP3 _).mono ?_
          rintro e _ ⟨rfl, rfl⟩
          clear HP3
          go_wp2
          go_ret2
          exact ⟨_, by rw [unhide HF2]; rfl, by rw [unhide HF2]; exact own_none _ _ _, unhide HB4⟩
      · have hp1' : plL nm = false := by simpa using hp1
        rw [hp1'] at HP1
        have HF2 : Hid (rdW s.data.toList = none) := hide (by rw [unhide HF]; unfold rdP; rw [if_neg (by rintro ⟨_, h, _⟩; exact hp1 h)])
        go_wp2_with fail
        refine (unhide HP1 _).mono ?_
        rintro e _ ⟨rfl, rfl⟩
        clear HP1
        go_wp2
        go_ret2
        exact ⟨_, by rw [unhide HF2]; rfl, by rw [unhide HF2]; exact own_none _ _ _, unhide HB4⟩
    · rw [if_neg hcl, decide_eq_false hcl] at HCP
      have HF2 : Hid (rdW s.data.toList = none) := hide (by rw [unhide HF]; unfold rdP; rw [if_neg (by rintro ⟨h, _, _⟩; exact hcl h)])
      simp only [bts] at HCP
      go_wp2_with fail
      refine (unhide HCP _).mono ?_
      rintro e _ ⟨rfl, rfl⟩
      clear HCP
      go_wp2
      go_ret2
      exact ⟨_, by rw [unhide HF2]; rfl, by rw [unhide HF2]; exact own_none _ _ _, unhide HB4⟩
end Go.Proofs.YtdallfakfhajdaaGreatDoor
