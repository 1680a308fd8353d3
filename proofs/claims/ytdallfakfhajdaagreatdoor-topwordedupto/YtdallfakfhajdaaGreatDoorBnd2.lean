/-
  What word.readWord does, over this seat's program.
-/
import Derived.Test.YtdallfakfhajdaaGreatDoorWfq
import Derived.Test.YtdallfakfhajdaaGreatDoorRnm
import Derived.Test.YtdallfakfhajdaaGreatDoorRdc
import Derived.Deep.Onto
import Derived.Lib.IndexMore
set_option linter.unusedVariables false
namespace Go.Proofs.YtdallfakfhajdaaGreatDoor
open Go.RowKit Go.Proofs.Enc Go.Proofs.Rns

/-- What is behind a word's first two bytes. -/
def opW (l : List UInt8) : Option (List UInt8) := match l with
  | a :: b :: r => if a = 61 ∧ b = 63 then some r else none
  | _ => none
theorem opW_pre (l : List UInt8) : Lib.hasPrefix l [61, 63] = (opW l).isSome := by
  unfold Lib.hasPrefix opW
  rcases l with _ | ⟨a, _ | ⟨b, r⟩⟩
  · rfl
  · simp [List.isPrefixOf]
  · dsimp only
    by_cases h : a = 61 ∧ b = 63
    · rw [if_pos h, h.1, h.2]; simp [List.isPrefixOf]
    · rw [if_neg h]
      simp only [List.isPrefixOf, Option.isSome_none, Bool.and_true]
      rw [Bool.and_eq_false_iff]
      by_cases h1 : a = 61
      · right
        simp only [beq_eq_false_iff_ne, ne_eq]
        intro e; exact h ⟨h1, e.symm⟩
      · left
        simp only [beq_eq_false_iff_ne, ne_eq]
        intro e; exact h1 e.symm
theorem opW_some {l r : List UInt8} (h : opW l = some r) : r = l.drop 2 ∧ 2 ≤ l.length := by
  unfold opW at h
  rcases l with _ | ⟨a, _ | ⟨b, t⟩⟩
  · cases h
  · cases h
  · simp only at h
    split at h
    · simp at h; subst h; simp
    · cases h

set_option maxHeartbeats 1000000 in
theorem cutOpen_any (s : ByteArray) (w : World) :
    Calls Tryz.prog 66 #[.string s, .string (bts [61, 63])] w fun e w' => e = .returned (match opW s.data.toList with | some r => .tuple #[.string (bts r), .bool true] | none => .tuple #[.string s, .bool false]) ∧ w' = w := by
  have HP := hide (fun W => Tryz.stringslite_HasPrefix s (bts [61, 63]) W)
  rw [toList_bts, opW_pre] at HP
  have hz : (bts [61, 63]).size = 2 := size_bts _
  cases ho : opW s.data.toList with
  | none =>
    rw [ho] at HP
    simp only [Option.isSome_none] at HP
    simp only
    generalize bts [61, 63] = p at hz HP ⊢
    have HL : Hid (∀ W, Calls Tryz.prog 113 #[.string s, .string p] W fun e w' => e = .returned (.tuple #[.string s, .bool false]) ∧ w' = W) := hide (fun W => by
      clear ho
      go_enter Tryz.func113, Tryz.ntmps113
      go_wp2_with (go_at_call 141; refine (unhide HP _).mono ?_; rintro e _ ⟨rfl, rfl⟩)
      go_ret2
      exact ⟨rfl, rfl⟩)
    clear ho HP
    go_enter Tryz.func66, Tryz.ntmps66
    go_wp2_with (go_at_call 113; refine (unhide HL _).mono ?_; rintro e _ ⟨rfl, rfl⟩)
    go_ret2
    exact ⟨rfl, rfl⟩
  | some r =>
    rw [ho] at HP
    simp only [Option.isSome_some] at HP
    obtain ⟨hr, hl⟩ := opW_some ho
    rw [sizeL] at hl
    have hb : bts r = s.extract 2 s.size := by apply ext_list; rw [toList_bts, toList_from, hr]
    have HS := fun W => slice_from s 2 2 rfl hl W
    rw [← hb] at HS
    simp only
    generalize bts [61, 63] = p at hz HP ⊢
    generalize bts r = t at HS ⊢
    have HL : Hid (∀ W, Calls Tryz.prog 113 #[.string s, .string p] W fun e w' => e = .returned (.tuple #[.string t, .bool true]) ∧ w' = W) := hide (fun W => by
      clear ho hr hb
      go_enter Tryz.func113, Tryz.ntmps113
      go_wp2_with (go_at_call 141; refine (unhide HP _).mono ?_; rintro e _ ⟨rfl, rfl⟩)
      go_ret2
      exact ⟨rfl, rfl⟩)
    clear ho HP hr hb HS
    go_enter Tryz.func66, Tryz.ntmps66
    go_wp2_with (go_at_call 113; refine (unhide HL _).mono ?_; rintro e _ ⟨rfl, rfl⟩)
    go_ret2
    exact ⟨rfl, rfl⟩

/-- What is ahead of a byte, and behind it: nothing, if there is none. -/
def cutD (k : UInt8) (l : List UInt8) : List UInt8 × List UInt8 := (cutAt k l).getD (l, [])
theorem cutD_len (k : UInt8) (l : List UInt8) : (cutD k l).1.length + (cutD k l).2.length ≤ l.length := by
  unfold cutD
  have := index_cut k l
  cases h : cutAt k l with
  | none => simp
  | some p =>
    rw [h] at this
    obtain ⟨_, h2⟩ := this
    simp only [Option.getD_some]
    rw [h2]
    simp
theorem cutD_any (c : UInt8) (s : ByteArray) (w : World) (hs : s.size ≤ 281474976710656) :
    Calls Tryz.prog 56 #[.string s, .string ⟨#[c]⟩] w fun e w' => (∃ b, e = .returned (.tuple #[.string (bts (cutD c s.data.toList).1), .string (bts (cutD c s.data.toList).2), .bool b])) ∧ Below w.heap.size w w' := by
  refine (cut1_any c s w hs).mono ?_
  rintro e w' ⟨rfl, q, rfl⟩
  refine ⟨?_, ⟨rfl, rfl, rfl, Nat.le_refl _, fun _ _ => rfl⟩⟩
  unfold cutD
  cases cutAt c s.data.toList with
  | none => exact ⟨false, by simp only [Option.getD_none]; rw [bts_toList]; rfl⟩
  | some p => exact ⟨true, rfl⟩

theorem qA_len : ∀ (f : Nat) (acc l b : List UInt8), qA f acc l = some b → b.length ≤ acc.length + l.length
  | 0, acc, l, b, h => by simp [qA] at h; subst h; omega
  | f + 1, acc, [], b, h => by simp [qA] at h; subst h; simp
  | f + 1, acc, c :: r, b, h => by
    by_cases h1 : c = 61
    · unfold qA at h
      rw [if_pos h1] at h
      split at h
      · cases h
      · split at h
        · cases h
        · have := qA_len f _ _ b h
          simp at this
          simp
          omega
    · by_cases h2 : c = 95
      · rw [qA_us h1 h2] at h
        have := qA_len f _ _ b h
        simp at this
        simp
        omega
      · rw [qA_else h1 h2] at h
        have := qA_len f _ _ b h
        simp at this
        simp
        omega
theorem textR_len {c t b : List UInt8} (h : textR c t = some b) : b.length ≤ t.length := by
  unfold textR at h
  split at h
  · split at h
    · simp only [Option.some.injEq] at h
      subst h
      unfold strictR
      split
      · have := from_len t 0 0 rfl
        simp only
        omega
      · simp
    · cases h
  · split at h
    · have := qA_len _ _ _ b h
      simpa using this
    · cases h

/-- A word's parts. -/
structure WP where
  name : List UInt8
  coding : List UInt8
  text : List UInt8
  behind : List UInt8
def partsW (r : List UInt8) : WP := ⟨(cutD 63 r).1, (cutD 63 (cutD 63 r).2).1, (cutD 63 (cutD 63 (cutD 63 r).2).2).1, (cutD 63 (cutD 63 (cutD 63 r).2).2).2⟩
def setW (p : WP) : Nat × Nat := namedR (cutD 42 p.name).1
/-- The word with which a text begins: its letters, and how many bytes it has. -/
def rdP (n : Nat) (p : WP) : Option (List Nat × Nat) :=
  if p.behind.head? = some 61 ∧ plL p.name = true ∧ plL p.text = true then
    if (setW p).2 = 0 then match textR p.coding p.text with
      | none => none
      | some b => some ((decR (setW p).1 b).1, n - (p.behind.length - 1))
    else none
  else none
def rdW (l : List UInt8) : Option (List Nat × Nat) := match opW l with
  | none => none
  | some r => rdP l.length (partsW r)
def rdL (o : Option (List Nat × Nat)) : List Nat := match o with
  | none => []
  | some p => p.1
def rdN (o : Option (List Nat × Nat)) : Nat := match o with
  | none => 0
  | some p => p.2
end Go.Proofs.YtdallfakfhajdaaGreatDoor

/-
  The walk of word.readWord, over this seat's program.
-/
set_option linter.unusedVariables false
namespace Go.Proofs.YtdallfakfhajdaaGreatDoor
open Go.RowKit Go.Proofs.Enc Go.Proofs.Rns

theorem own_none (w : World) (B e : Nat) : w.ownsRow B e 1 (.slice none 0 0) ([] : List Nat).length (runeC []) := ⟨rfl, Or.inl ⟨rfl, rfl⟩⟩
theorem size_cutD1 (k : UInt8) (l : List UInt8) : (bts (cutD k l).1).size ≤ l.length := by have := cutD_len k l; rw [size_bts]; omega
theorem size_cutD2 (k : UInt8) (l : List UInt8) : (bts (cutD k l).2).size ≤ l.length := by have := cutD_len k l; rw [size_bts]; omega

theorem named_lt (l : List UInt8) : (namedR l).1 < 256 := by
  have h : ∀ (u : List UInt8) (t : List (List UInt8 × Nat)), (∀ p ∈ t, p.2 < 256) → (namedF u t).1 < 256 := by
    intro u t
    induction t with
    | nil => intro _; simp [namedF]
    | cons p r ih =>
      intro hp
      unfold namedF
      split
      · exact hp p (by simp)
      · exact ih (fun q hq => hp q (by simp [hq]))
  exact h _ _ (by decide +kernel)

theorem named_no (l : List UInt8) : (namedR l).2 = 0 ∨ (namedR l).2 = 14 := by
  have h : ∀ (u : List UInt8) (t : List (List UInt8 × Nat)), (namedF u t).2 = 0 ∨ (namedF u t).2 = 14 := by
    intro u t
    induction t with
    | nil => simp [namedF]
    | cons p r ih =>
      unfold namedF
      split
      · exact Or.inl rfl
      · exact ih
  exact h _ _

set_option maxHeartbeats 4000000 in
set_option maxRecDepth 100000 in
theorem readWord_any (s : ByteArray) (w : World) (ht : RTabN w) (hes : ErrS w) (hs : s.size ≤ 40000000) :
    Calls Tryz.prog 27 #[.string s] w fun e w' => ∃ v, e = .returned (.tuple #[v, .int .i64 (rdN (rdW s.data.toList))]) ∧ w'.ownsRow w.heap.size 21 1 v (rdL (rdW s.data.toList)).length (runeC (rdL (rdW s.data.toList))) ∧ Below w.heap.size w w' := by
  have H0 := hide (cutOpen_any s w)
  have HT := hide ht
  have HES := hide hes
  clear ht hes
  cases ho : opW s.data.toList with
  | none =>
    rw [ho] at H0
    simp only [bts] at H0
    have HF : Hid (rdW s.data.toList = none) := hide (by unfold rdW; rw [ho])
    clear ho
    go_enter Tryz.func27, Tryz.ntmps27
    go_wp2_with fail
    refine (unhide H0).mono ?_
    rintro e w1 ⟨rfl, h1⟩
    subst h1
    clear H0
    go_wp2
    go_ret2
    exact ⟨_, by rw [unhide HF]; rfl, by rw [unhide HF]; exact own_none _ _ _, Below.refl _ _⟩
  | some r =>
    rw [ho] at H0
    simp only at H0
    obtain ⟨hr, hl2⟩ := opW_some ho
    have hrl : r.length ≤ s.size := by rw [hr, List.length_drop, sizeL]; omega
    have HF : Hid (rdW s.data.toList = rdP s.size (partsW r)) := hide (by unfold rdW; rw [ho, sizeL])
    have l1 := cutD_len 63 r
    have l2 := cutD_len 63 (cutD 63 r).2
    have l3 := cutD_len 63 (cutD 63 (cutD 63 r).2).2
    have HC1 := hide (fun W => cutD_any 63 (bts r) W (by rw [size_bts]; omega))
    have HC2 := hide (fun W => cutD_any 63 (bts (cutD 63 r).2) W (by rw [size_bts]; omega))
    have HC3 := hide (fun W => cutD_any 63 (bts (cutD 63 (cutD 63 r).2).2) W (by rw [size_bts]; omega))
    rw [toList_bts] at HC1 HC2 HC3
    obtain ⟨nm, hnm⟩ : ∃ x, x = (cutD 63 r).1 := ⟨_, rfl⟩
    obtain ⟨cd, hcd⟩ : ∃ x, x = (cutD 63 (cutD 63 r).2).1 := ⟨_, rfl⟩
    obtain ⟨tx, htx⟩ : ∃ x, x = (cutD 63 (cutD 63 (cutD 63 r).2).2).1 := ⟨_, rfl⟩
    obtain ⟨bh, hbh⟩ : ∃ x, x = (cutD 63 (cutD 63 (cutD 63 r).2).2).2 := ⟨_, rfl⟩
    have hpw : partsW r = ⟨nm, cd, tx, bh⟩ := by unfold partsW; rw [hnm, hcd, htx, hbh]
    rw [hpw] at HF
    rw [← hnm] at HC1 l1
    rw [← hcd] at HC2 l2
    rw [← htx, ← hbh] at HC3 l3
    have n1 : nm.length ≤ 40000000 := by omega
    have n2 : cd.length ≤ 40000000 := by omega
    have n3 : tx.length ≤ 40000000 := by omega
    have n4 : bh.length ≤ s.size := by omega
    have HCP := hide (fun W => cutPrefix_any (bts bh) 61 W (by rw [size_bts]; omega))
    rw [toList_bts] at HCP
    have HP1 := hide (fun W => isPlain_any (bts nm) W (by rw [size_bts]; omega))
    have HP3 := hide (fun W => isPlain_any (bts tx) W (by rw [size_bts]; omega))
    rw [toList_bts] at HP1 HP3
    have HST := hide (fun W => cutD_any 42 (bts nm) W (by rw [size_bts]; omega))
    rw [toList_bts] at HST
    have HNM := hide (fun W (h : RTabN W) => named_any (bts (cutD 42 nm).1) W h (by have := size_cutD1 42 nm; omega))
    rw [toList_bts] at HNM
    have HFT := hide (fun W (h : ErrS W) => fromText_any (bts cd) (bts tx) W (by rw [size_bts]; omega) (by rw [size_bts]; omega) h)
    rw [toList_bts, toList_bts] at HFT
    have HSET : Hid (setW ⟨nm, cd, tx, bh⟩ = namedR (cutD 42 nm).1) := hide rfl
    obtain ⟨nr, hnr⟩ : ∃ nr, nr = namedR (cutD 42 nm).1 := ⟨_, rfl⟩
    rw [← hnr] at HNM HSET
    have hnr1 : nr.1 < 256 := by rw [hnr]; exact named_lt _
    have hnr2 : nr.2 = 0 ∨ nr.2 = 14 := by rw [hnr]; exact named_no _
    generalize bts (cutD 63 r).2 = y1 at HC1 HC2
    generalize bts (cutD 63 (cutD 63 r).2).2 = y2 at HC2 HC3
    generalize bts (cutD 42 nm).2 = y4 at HST
    generalize bts (cutD 42 nm).1 = x4 at HST HNM
    have hzb := size_bts bh
    generalize bts bh = y3 at HC3 HCP hzb
    generalize bts r = R0 at H0 HC1
    generalize bts nm = x1 at HC1 HP1 HST
    generalize bts cd = x2 at HC2 HFT
    generalize bts tx = x3 at HC3 HP3 HFT
    clear ho hr hl2 hrl l1 l2 l3 hnm hcd htx hbh hpw hnr
    obtain ⟨c0, e0⟩ := nr
    simp only at HNM hnr1 hnr2
    simp only [bts] at H0
    go_enter Tryz.func27, Tryz.ntmps27
    go_wp2_with fail
    refine (unhide H0).mono ?_
    rintro e w1 ⟨rfl, h1⟩
    subst h1
    clear H0
    go_wp2_with fail
    refine (unhide HC1 _).mono ?_
    rintro e w2 ⟨⟨b1, rfl⟩, hb⟩
    have HB2 := hide hb
    clear hb HC1
    go_wp2_with fail
    refine (unhide HC2 _).mono ?_
    rintro e w3 ⟨⟨b2, rfl⟩, hb⟩
    have HB3 := hide (belows' (unhide HB2) hb)
    clear hb HC2 HB2
    go_wp2_with fail
    refine (unhide HC3 _).mono ?_
    rintro e w4 ⟨⟨b3, rfl⟩, hb⟩
    have HB4 := hide (belows' (unhide HB3) hb)
    clear hb HC3 HB3
    by_cases hcl : bh.head? = some 61
    · rw [if_pos hcl, decide_eq_true hcl] at HCP
      have hbp : 1 ≤ bh.length := by
        cases bh with
        | nil => simp at hcl
        | cons a t => simp
      have hxe : (y3.extract 1 y3.size).size = bh.length - 1 := by rw [size_part _ _ _ (Nat.le_refl _), hzb]
      generalize y3.extract 1 y3.size = rs at HCP hxe
      simp only [bts] at HCP
      go_wp2_with fail
      refine (unhide HCP _).mono ?_
      rintro e _ ⟨rfl, rfl⟩
      clear HCP
      by_cases hp1 : plL nm = true
      · rw [hp1] at HP1
        go_wp2_with fail
        refine (unhide HP1 _).mono ?_
        rintro e _ ⟨rfl, rfl⟩
        clear HP1
        by_cases hp2 : plL tx = true
        · rw [hp2] at HP3
          go_wp2_with fail
          refine (unhide HP3 _).mono ?_
          rintro e _ ⟨rfl, rfl⟩
          clear HP3
          go_wp2_with fail
          refine (unhide HST _).mono ?_
          rintro e w5 ⟨⟨b4, rfl⟩, hb⟩
          have HB5 := hide (belows' (unhide HB4) hb)
          clear hb HST HB4
          go_wp2_with fail
          refine (unhide HNM _ ((unhide HT).below (unhide HB5))).mono ?_
          rintro e w6 ⟨rfl, hb⟩
          have HB6 := hide (belows' (unhide HB5) hb)
          clear hb HNM HB5
          go_wp2_with fail
          rcases hnr2 with h0 | h14
          · subst h0
            cases htr : textR cd tx with
            | none =>
              rw [htr] at HFT
              have HF2 : Hid (rdW s.data.toList = none) := hide (by rw [unhide HF]; unfold rdP; rw [if_pos ⟨hcl, hp1, hp2⟩, unhide HSET, if_pos rfl]; simp only [htr])
              refine (unhide HFT _ ((unhide HES).below (unhide HB6))).mono ?_
              rintro e w7 ⟨rfl, hb⟩
              have HB7 := hide (belows' (unhide HB6) hb)
              clear hb HFT HB6 htr
              simp only [optS]
              go_wp2
              go_ret2
              exact ⟨_, by rw [unhide HF2]; rfl, by rw [unhide HF2]; exact own_none _ _ _, unhide HB7⟩
            | some b =>
              have hbl := textR_len htr
              rw [htr] at HFT
              have HF2 : Hid (rdW s.data.toList = some ((decR c0 b).1, s.size - (bh.length - 1))) := hide (by rw [unhide HF]; unfold rdP; rw [if_pos ⟨hcl, hp1, hp2⟩, unhide HSET, if_pos rfl]; simp only [htr])
              have HDC := hide (fun W (h : RTab W) => decode_any c0 (bts b) W h hnr1 (by rw [size_bts]; omega))
              rw [toList_bts] at HDC
              simp only [optS] at HFT
              generalize bts b = B0 at HFT HDC
              refine (unhide HFT _ ((unhide HES).below (unhide HB6))).mono ?_
              rintro e w7 ⟨rfl, hb⟩
              have HB7 := hide (belows' (unhide HB6) hb)
              clear hb HFT HB6 htr
              go_wp2_with fail
              refine (unhide HDC _ ((unhide HT).below (unhide HB7)).1).mono ?_
              rintro e w8 ⟨v, rfl, ho, hb⟩
              have HB8 := hide (belows' (unhide HB7) hb)
              have HO := hide (ho.mono (unhide HB7).size)
              clear hb ho HDC HB7
              go_wp2
              go_ret2
              refine ⟨v, ?_, ?_, unhide HB8⟩
              · rw [unhide HF2]
                have he : ((s.size : Int) - ((bh.length - 1 : Nat) : Int)) = ((s.size - (bh.length - 1) : Nat) : Int) := by omega
                show Ending.returned (.tuple #[v, .int .i64 ((s.size : Int) - ((bh.length - 1 : Nat) : Int))]) = Ending.returned (.tuple #[v, .int .i64 ((s.size - (bh.length - 1) : Nat) : Int)])
                rw [he]
              · rw [unhide HF2]
                exact unhide HO
          · subst h14
            have HF2 : Hid (rdW s.data.toList = none) := hide (by rw [unhide HF]; unfold rdP; rw [if_pos ⟨hcl, hp1, hp2⟩, unhide HSET, if_neg (by simp)])
            refine (unhide HFT _ ((unhide HES).below (unhide HB6))).mono ?_
            rintro e w7 ⟨rfl, hb⟩
            have HB7 := hide (belows' (unhide HB6) hb)
            clear hb HFT HB6
            obtain ⟨y, b5, hy⟩ : ∃ y b5, optS (textR cd tx) = .tuple #[.string y, .bool b5] := by
              cases textR cd tx with
              | none => exact ⟨_, _, rfl⟩
              | some b => exact ⟨_, _, rfl⟩
            rw [hy]
            clear hy
            go_wp2
            go_ret2
            exact ⟨_, by rw [unhide HF2]; rfl, by rw [unhide HF2]; exact own_none _ _ _, unhide HB7⟩
        · have hp2' : plL tx = false := by simpa using hp2
          rw [hp2'] at HP3
          have HF2 : Hid (rdW s.data.toList = none) := hide (by rw [unhide HF]; unfold rdP; rw [if_neg (by rintro ⟨_, _, h⟩; exact hp2 h)])
          go_wp2_with fail
          refine (unhide HP3 _).mono ?_
          rintro e _ ⟨rfl, rfl⟩
          clear HP3
          go_wp2
          go_ret2
          exact ⟨_, by rw [unhide HF2]; rfl, by rw [unhide HF2]; exact own_none _ _ _, unhide HB4⟩
      · have hp1' : plL nm = false := by simpa using hp1
        rw [hp1'] at HP1
        have HF2 : Hid (rdW s.data.toList = none) := hide (by rw [unhide HF]; unfold rdP; rw [if_neg (by rintro ⟨_, h, _⟩; exact hp1 h)])
        go_wp2_with fail
        refine (unhide HP1 _).mono ?_
        rintro e _ ⟨rfl, rfl⟩
        clear HP1
        go_wp2
        go_ret2
        exact ⟨_, by rw [unhide HF2]; rfl, by rw [unhide HF2]; exact own_none _ _ _, unhide HB4⟩
    · rw [if_neg hcl, decide_eq_false hcl] at HCP
      have HF2 : Hid (rdW s.data.toList = none) := hide (by rw [unhide HF]; unfold rdP; rw [if_neg (by rintro ⟨h, _, _⟩; exact hcl h)])
      simp only [bts] at HCP
      go_wp2_with fail
      refine (unhide HCP _).mono ?_
      rintro e _ ⟨rfl, rfl⟩
      clear HCP
      go_wp2
      go_ret2
      exact ⟨_, by rw [unhide HF2]; rfl, by rw [unhide HF2]; exact own_none _ _ _, unhide HB4⟩
end Go.Proofs.YtdallfakfhajdaaGreatDoor

/-
  What word.findWord and word.One do, over this seat's program.
-/
set_option linter.unusedVariables false
namespace Go.Proofs.YtdallfakfhajdaaGreatDoor
open Go.RowKit Go.Proofs.Enc Go.Proofs.Rns

/-- The first word of a text that begins at some place: where it begins, its letters, how many bytes it has. -/
def fdW : List UInt8 → Nat → Nat × List Nat × Nat
  | [], k => (k, [], 0)
  | a :: r, k => if 0 < rdN (rdW (a :: r)) then (k, rdL (rdW (a :: r)), rdN (rdW (a :: r))) else fdW r (k + 1)
theorem rdN_none {l : List UInt8} (h : opW l = none) : ¬ 0 < rdN (rdW l) := by
  unfold rdW
  rw [h]
  simp [rdN]
theorem fdW_skip : ∀ (i : Nat) (l : List UInt8) (k : Nat), (∀ j, j < i → opW (l.drop j) = none) → i ≤ l.length → fdW l k = fdW (l.drop i) (k + i)
  | 0, l, k, _, _ => by simp
  | i + 1, [], k, _, h => by simp at h
  | i + 1, a :: r, k, h, hl => by
    have h0 := rdN_none (h 0 (by omega))
    simp only [List.drop_zero] at h0
    show (if 0 < rdN (rdW (a :: r)) then _ else fdW r (k + 1)) = _
    rw [if_neg h0, fdW_skip i r (k + 1) (fun j hj => by have := h (j + 1) (by omega); simpa using this) (by simpa using hl)]
    simp only [List.drop_succ_cons]
    rw [show k + 1 + i = k + (i + 1) by omega]
theorem occ_op (l : List UInt8) (j : Nat) : Lib.occAt l [61, 63] j = (opW (l.drop j)).isSome := opW_pre (l.drop j)
theorem fdW_no {l : List UInt8} {k : Nat} (h : ∀ j, j ≤ l.length → Lib.occAt l [61, 63] j = false) : fdW l k = (k + l.length, [], 0) := by
  rw [fdW_skip l.length l k (fun j hj => by
    have := h j (by omega)
    rw [occ_op] at this
    cases ho : opW (l.drop j) with
    | none => rfl
    | some r => rw [ho] at this; cases this) (Nat.le_refl _), List.drop_length]
  rfl
theorem fdW_to {l : List UInt8} {k i : Nat} (h : Lib.NoOcc l [61, 63] i) (hi : i ≤ l.length) : fdW l k = fdW (l.drop i) (k + i) :=
  fdW_skip i l k (fun j hj => by
    have := h j hj
    rw [occ_op] at this
    cases ho : opW (l.drop j) with
    | none => rfl
    | some r => rw [ho] at this; cases this) hi
theorem fdW_hit {l : List UInt8} {k : Nat} (h : 0 < rdN (rdW l)) : fdW l k = (k, rdL (rdW l), rdN (rdW l)) := by
  cases l with
  | nil => exact absurd h (rdN_none rfl)
  | cons a r => show (if 0 < rdN (rdW (a :: r)) then _ else fdW r (k + 1)) = _; rw [if_pos h]
theorem fdW_miss {l r : List UInt8} {k : Nat} (ho : opW l = some r) (h : ¬ 0 < rdN (rdW l)) : fdW l k = fdW (l.drop 2) (k + 2) := by
  unfold opW at ho
  rcases l with _ | ⟨a, _ | ⟨b, t⟩⟩
  · cases ho
  · cases ho
  · simp only at ho
    split at ho
    · rename_i hab
      obtain ⟨rfl, rfl⟩ := hab
      show (if 0 < rdN (rdW (61 :: 63 :: t)) then _ else fdW (63 :: t) (k + 1)) = _
      rw [if_neg h]
      show (if 0 < rdN (rdW (63 :: t)) then _ else fdW t (k + 1 + 1)) = _
      rw [if_neg (rdN_none (by unfold opW; cases t <;> simp))]
      rfl
    · cases ho

/-- The library's variable lies. -/
def MaxL (w : World) : Prop := 4 < w.heap.size ∧ ∃ m, w.cell? ⟨4, 0, none⟩ = some (.int .i64 m)
theorem MaxL.below {w w' : World} (h : MaxL w) (hb : Below w.heap.size w w') : MaxL w' := by
  obtain ⟨h1, m, h2⟩ := h
  have := hb.size
  exact ⟨by omega, m, (hb.cell (p := ⟨4, 0, none⟩) h1).trans h2⟩

set_option maxHeartbeats 4000000 in
set_option maxRecDepth 100000 in
theorem findWord_any (s : ByteArray) (w : World) (ht : RTabN w) (hes : ErrS w) (hml : MaxL w) (hs : s.size ≤ 40000000) :
    Calls Tryz.prog 78 #[.string s] w fun e w' => ∃ v, e = .returned (.tuple #[.int .i64 (fdW s.data.toList 0).1, v, .int .i64 (fdW s.data.toList 0).2.2]) ∧ w'.ownsRow w.heap.size 21 1 v (fdW s.data.toList 0).2.1.length (runeC (fdW s.data.toList 0).2.1) ∧ Below w.heap.size w w' := by
  have HT := hide ht
  have HES := hide hes
  have HML := hide hml
  clear ht hes hml
  go_enter Tryz.func78, Tryz.ntmps78
  go_wp2
  go_loopw [5, 6, 7, 8] (fun z y1 y2 y3 wr => ∃ k : Nat, z = .int .i64 k ∧ k ≤ s.size ∧ Hid (fdW s.data.toList 0 = fdW (s.data.toList.drop k) k) ∧ Hid (Below w.heap.size w wr)) (fun z _ _ _ _ => s.size - (intOf z).toNat)
  case atStart => exact ⟨0, rfl, by omega, hide (by simp), hide (Below.refl _ _)⟩
  case round =>
    obtain ⟨k, rfl, hk, HF, HB⟩ := hrel
    have hsl := fun W => slice_from s k k rfl hk W
    have HIX := hide (fun W (h : MaxL W) => Tryz.strings_Index (s.extract k s.size) (bts [61, 63]) h.2.choose W (by rw [size_part _ _ _ (Nat.le_refl _)]; omega) h.2.choose_spec)
    rw [toList_from, toList_bts] at HIX
    have hll : (s.data.toList.drop k).length = s.size - k := by rw [List.length_drop, sizeL]
    rcases Lib.index_spec (s.data.toList.drop k) [61, 63] with ⟨hi, hno⟩ | ⟨i, hi, hil, hoc, hno⟩
    · have HF2 : Hid (fdW s.data.toList 0 = (s.size, [], 0)) := hide (by rw [unhide HF, fdW_no hno, hll]; simp; omega)
      rw [hi] at HIX
      generalize s.extract k s.size = t1 at hsl HIX
      simp only [bts] at HIX
      clear hi hno HF
      go_wp2_with fail
      refine (unhide HIX _ ((unhide HML).below (unhide HB))).mono ?_
      rintro e _ ⟨rfl, rfl⟩
      clear HIX
      go_wp2
      go_ret3
      exact ⟨_, by rw [unhide HF2]; rfl, by rw [unhide HF2]; exact own_none _ _ _, unhide HB⟩
    · have hrm := Lib.index_room (s.data.toList.drop k) [61, 63] (by rw [hi]; omega)
      rw [hi, hll] at hrm
      simp only [List.length_cons, List.length_nil] at hrm
      have hki : k + i + 2 ≤ s.size := by omega
      obtain ⟨r, hop⟩ : ∃ r, opW (s.data.toList.drop (k + i)) = some r := by
        rw [occ_op, List.drop_drop] at hoc
        cases ho : opW (s.data.toList.drop (k + i)) with
        | none => rw [ho] at hoc; cases hoc
        | some r => exact ⟨r, rfl⟩
      have hF1 := (unhide HF).trans (fdW_to (k := k) hno hil)
      rw [List.drop_drop] at hF1
      have hsl2 := fun W => slice_from s ((k : Int) + (i : Int)) (k + i) (by omega) (by omega) W
      have HRW := hide (fun W (h : RTabN W) (h2 : ErrS W) => readWord_any (s.extract (k + i) s.size) W h h2 (by rw [size_part _ _ _ (Nat.le_refl _)]; omega))
      rw [toList_from] at HRW
      rw [hi] at HIX
      generalize s.extract k s.size = t1 at hsl HIX
      generalize s.extract (k + i) s.size = t2 at hsl2 HRW
      simp only [bts] at HIX
      have hni : ¬ (i : Int) < 0 := by omega
      by_cases hz : 0 < rdN (rdW (s.data.toList.drop (k + i)))
      · have HF2 := hide (hF1.trans (fdW_hit hz))
        obtain ⟨N, hN⟩ : ∃ N, N = rdN (rdW (s.data.toList.drop (k + i))) := ⟨_, rfl⟩
        rw [← hN] at HRW HF2 hz
        have hzi : (0 : Int) < (N : Int) := by omega
        clear hi hno hoc HF hF1 hop hN hrm hil hll
        go_wp2_with fail
        refine (unhide HIX _ ((unhide HML).below (unhide HB))).mono ?_
        rintro e _ ⟨rfl, rfl⟩
        clear HIX
        go_wp2_with fail
        refine (unhide HRW _ ((unhide HT).below (unhide HB)) ((unhide HES).below (unhide HB))).mono ?_
        rintro e w2 ⟨v, rfl, ho, hb⟩
        have HO := hide (ho.mono (unhide HB).size)
        have HB2 := hide (belows' (unhide HB) hb)
        clear hb ho HRW HB
        go_wp2
        go_ret3
        exact ⟨v, by rw [unhide HF2]; rfl, by rw [unhide HF2]; exact unhide HO, unhide HB2⟩
      · have HF2 := hide (hF1.trans (fdW_miss hop hz))
        have hN : rdN (rdW (s.data.toList.drop (k + i))) = 0 := by omega
        rw [hN] at HRW
        rw [List.drop_drop] at HF2
        clear hi hno hoc HF hF1 hop hN hz hrm hil hll
        go_wp2_with fail
        refine (unhide HIX _ ((unhide HML).below (unhide HB))).mono ?_
        rintro e _ ⟨rfl, rfl⟩
        clear HIX
        go_wp2_with fail
        refine (unhide HRW _ ((unhide HT).below (unhide HB)) ((unhide HES).below (unhide HB))).mono ?_
        rintro e w2 ⟨v, rfl, ho, hb⟩
        have HB2 := hide (belows' (unhide HB) hb)
        clear hb ho HRW HB
        go_wp2
        refine ⟨⟨k + i + 2, by simp, by omega, HF2, HB2⟩, ?_⟩
        simp [intOf]
        omega
end Go.Proofs.YtdallfakfhajdaaGreatDoor

/-
  What word.One does, over this seat's program.
-/
set_option linter.unusedVariables false
namespace Go.Proofs.YtdallfakfhajdaaGreatDoor
open Go.RowKit Go.Proofs.Enc Go.Proofs.Rns

theorem rdN_le (l : List UInt8) : rdN (rdW l) ≤ l.length := by
  unfold rdW
  cases opW l with
  | none => simp [rdN]
  | some r =>
    simp only
    unfold rdP
    split
    · split
      · split
        · simp [rdN]
        · simp only [rdN]; omega
      · simp [rdN]
    · simp [rdN]
/-- What One answers: the letters, what is behind them, and why not. -/
def oneW (l : List UInt8) : List Nat × List UInt8 × Nat := if rdN (rdW l) = 0 then ([], [], 7) else (rdL (rdW l), l.drop (rdN (rdW l)), 0)

set_option maxHeartbeats 4000000 in
theorem one_word (s : ByteArray) (w : World) (ht : RTabN w) (hes : ErrS w) (hs : s.size ≤ 40000000) :
    Calls Tryz.prog 9 #[.string s] w fun e w' => ∃ v, e = .returned (.tuple #[v, .string (bts (oneW s.data.toList).2.1), .int .i64 (oneW s.data.toList).2.2]) ∧ w'.ownsRow w.heap.size 21 1 v (oneW s.data.toList).1.length (runeC (oneW s.data.toList).1) ∧ Below w.heap.size w w' := by
  have HRW := hide (readWord_any s w ht hes hs)
  have hle := rdN_le s.data.toList
  rw [sizeL] at hle
  clear ht hes
  by_cases hz : rdN (rdW s.data.toList) = 0
  · have HF : Hid (oneW s.data.toList = ([], [], 7)) := hide (by unfold oneW; rw [if_pos hz])
    rw [hz] at HRW
    clear hz hle
    go_enter Tryz.func9, Tryz.ntmps9
    go_wp2_with fail
    refine (unhide HRW).mono ?_
    rintro e w2 ⟨v, rfl, ho, hb⟩
    have HB := hide hb
    clear hb ho HRW
    go_wp2
    go_ret3
    exact ⟨_, by rw [unhide HF]; rfl, by rw [unhide HF]; exact own_none _ _ _, unhide HB⟩
  · have hb : bts (s.data.toList.drop (rdN (rdW s.data.toList))) = s.extract (rdN (rdW s.data.toList)) s.size := by apply ext_list; rw [toList_bts, toList_from]
    have HF : Hid (oneW s.data.toList = (rdL (rdW s.data.toList), s.data.toList.drop (rdN (rdW s.data.toList)), 0)) := hide (by unfold oneW; rw [if_neg hz])
    obtain ⟨n, hn⟩ : ∃ n, n = rdN (rdW s.data.toList) := ⟨_, rfl⟩
    rw [← hn] at HRW HF hle hz hb
    have hsl := fun W => slice_from s n n rfl hle W
    have HCL := hide (fun W => clone_str (s.extract n s.size) W (by rw [size_part _ _ _ (Nat.le_refl _)]; omega))
    rw [← hb] at hsl HCL
    have HBT : Hid (bts (oneW s.data.toList).2.1 = bts (s.data.toList.drop n)) := hide (by rw [unhide HF])
    generalize bts (s.data.toList.drop n) = t at hsl HCL HBT
    have hzi : ¬ (n : Int) = 0 := by omega
    clear hb hn
    go_enter Tryz.func9, Tryz.ntmps9
    go_wp2_with fail
    refine (unhide HRW).mono ?_
    rintro e w2 ⟨v, rfl, ho, hb⟩
    have HB := hide hb
    have HO := hide ho
    clear hb ho HRW
    go_wp2_with fail
    refine (unhide HCL _).mono ?_
    rintro e w3 ⟨rfl, hb⟩
    have HO3 := hide (own_below (unhide HO) hb)
    have HB3 := hide (belows' (unhide HB) hb)
    clear hb HCL HB HO
    go_wp2
    go_ret3
    exact ⟨v, by rw [unhide HBT, unhide HF]; rfl, by rw [unhide HF]; exact unhide HO3, unhide HB3⟩
end Go.Proofs.YtdallfakfhajdaaGreatDoor
