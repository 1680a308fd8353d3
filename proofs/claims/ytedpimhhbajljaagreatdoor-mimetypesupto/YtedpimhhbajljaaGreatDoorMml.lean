/-
  What Letters of mime does, over this seat's program.
-/
import Derived.Test.YtedpimhhbajljaaGreatDoorMmk
import Derived.Test.YtedpimhhbajljaaGreatDoorRnm
import Derived.Test.YtedpimhhbajljaaGreatDoorRdc
set_option linter.unusedVariables false
set_option linter.unusedSimpArgs false
namespace Go.Proofs.YtedpimhhbajljaaGreatDoor
open Go.RowKit Go.Lib Go.Proofs.Enc Go.Proofs.Rns

theorem below_allocL (w : World) (o : Obj) : Below w.heap.size w (w.alloc o) := (Below.refl _ _).alloc (Nat.le_refl _) o
set_option maxHeartbeats 1000000 in
theorem hasPrefixM_any (s p : ByteArray) (w : World) :
    Calls Tryz.prog 51 #[.string s, .string p] w fun e w' => e = .returned (.bool (Lib.hasPrefix s.data.toList p.data.toList)) ∧ w' = w := by
  have HP := hide (fun W => Tryz.stringslite_HasPrefix s p W)
  go_enter Tryz.func51, Tryz.ntmps51
  go_wp2_with (go_at_call 76; refine (unhide HP _).mono ?_; rintro e _ ⟨rfl, rfl⟩)
  go_ret
  exact ⟨rfl, rfl⟩

/-- Whether a type is one of text, and what Letters tells of a part. -/
def isTx (t : ByteArray) : Bool := Lib.hasPrefix t.data.toList [116, 101, 120, 116, 47]
def chN (c : ByteArray) : Nat := if (namedR c.data.toList).2 = 0 then (namedR c.data.toList).1 else 1
def letP (c d b : ByteArray) : List Nat := (decR (chN c) (byP d b).1.data.toList).1

set_option maxHeartbeats 4000000 in
set_option maxRecDepth 100000 in
theorem lettersM_any (lv : Int) (t c d b : ByteArray) (w : World) (ht : RTabN w) (hs : b.size ≤ 4194304) (hc : c.size ≤ 4194304) (hb : (byP d b).1.size ≤ 40000000) (h2 : (namedR c.data.toList).1 < 256) :
    Calls Tryz.prog 24 #[.agg #[.int .i64 lv, .string t, .string c, .string d, .string b]] w fun e w' => ∃ v, e = .returned (.tuple #[v, .bool (isTx t && decide ((namedR c.data.toList).2 = 0))]) ∧ (if isTx t then w'.ownsRow w.heap.size 21 1 v (letP c d b).length (runeC (letP c d b)) else v = .slice none 0 0) ∧ Below w.heap.size w w' := by
  have HP := hide (fun W => hasPrefixM_any t ⟨#[116, 101, 120, 116, 47]⟩ W)
  have HN := hide (fun W (h : RTabN W) => named_any c W h (by omega))
  have HB := hide (fun W => bytesM_any lv t c d b W (by omega))
  have HD := hide (fun W (h : RTabN W) => decode_any (chN c) (byP d b).1 W h.toRTab (by unfold chN; split <;> omega) hb)
  have eT : Lib.hasPrefix t.data.toList (ByteArray.mk #[116, 101, 120, 116, 47]).data.toList = isTx t := rfl
  rw [eT] at HP
  clear eT
  cases hx : isTx t with
  | false =>
    rw [hx] at HP
    simp only [Bool.false_and, Bool.false_eq_true, if_false]
    clear hx
    go_enter Tryz.func24, Tryz.ntmps24
    go_wp2_with fail
    refine (unhide HP _).mono ?_
    rintro e _ ⟨rfl, rfl⟩
    go_wp2
    go_ret2
    exact ⟨_, rfl, rfl, below_allocL _ _⟩
  | true =>
    rw [hx] at HP
    simp only [Bool.true_and, if_true]
    clear hx
    have HT := hide ht
    have e0 : (decR (chN c) (byP d b).1.data.toList).1 = letP c d b := rfl
    rw [e0] at HD
    generalize letP c d b = LL at HD ⊢
    have hch : chN c = if (namedR c.data.toList).2 = 0 then (namedR c.data.toList).1 else 1 := rfl
    generalize chN c = ch at HD hch
    generalize (namedR c.data.toList).1 = nc at HN hch h2
    generalize (namedR c.data.toList).2 = ne at HN hch ⊢
    generalize (decR ch (byP d b).1.data.toList).2 = de at HD
    generalize (byP d b).1 = by_ at HD HB hb
    generalize (byP d b).2 = bn at HB
    clear ht e0
    by_cases hne : ne = 0
    · have d1 : ((ne : Int) == 0) = true := by simp [hne]
      rw [if_pos hne] at hch
      subst hch
      rw [decide_eq_true hne]
      clear hne
      go_enter Tryz.func24, Tryz.ntmps24
      have K := hide (Blk.new w 50 #[.int .i64 lv, .string t, .string c, .string d, .string b])
      have HA := hide (below_allocL w (.cells #[.int .i64 lv, .string t, .string c, .string d, .string b] 50))
      go_wp2_with fail
      refine (unhide HP _).mono ?_
      rintro e _ ⟨rfl, rfl⟩
      go_wp2_with fail
      have TN := hide ((unhide HT).below (unhide HA))
      clear HT
      generalize w.alloc (.cells #[.int .i64 lv, .string t, .string c, .string d, .string b] 50) = Y at *
      refine (unhide HN _ (unhide TN)).mono ?_
      rintro e w1 ⟨rfl, b1⟩
      have KN := hide ((unhide K).below b1)
      have T1 := hide ((unhide TN).below b1)
      have B1 := hide ((unhide HA).trans (b1.mono (unhide HA).size))
      clear K TN HA b1 HP HN
      have k := unhide KN
      have c0 := k.cell 0
      have c1 := k.cell 1
      have c2 := k.cell 2
      have c3 := k.cell 3
      have c4 := k.cell 4
      simp only [List.getElem?_toArray, List.getElem?_cons_succ, List.getElem?_cons_zero] at c0 c1 c2 c3 c4
      clear k
      go_wp2_with fail
      refine (unhide HB _).mono ?_
      rintro e w2 ⟨rfl, b2⟩
      have B2 := hide ((unhide B1).trans (b2.mono (unhide B1).size))
      have T2 := hide ((unhide T1).below b2)
      clear B1 T1 b2 HB c0 c1 c2 c3 c4 KN
      go_wp2_with fail
      refine (unhide HD _ (unhide T2)).mono ?_
      rintro e w3 ⟨v3, rfl, o3, b3⟩
      have B3 := hide ((unhide B2).trans (b3.mono (unhide B2).size))
      have O3 := hide (own_monoH o3 (unhide B2).size)
      clear B2 b3 o3 T2 HD
      go_wp2
      go_ret2
      exact ⟨_, rfl, unhide O3, unhide B3⟩
    · have d1 : ((ne : Int) == 0) = false := by simp; omega
      rw [if_neg hne] at hch
      subst hch
      rw [decide_eq_false hne]
      clear hne
      go_enter Tryz.func24, Tryz.ntmps24
      have K := hide (Blk.new w 50 #[.int .i64 lv, .string t, .string c, .string d, .string b])
      have HA := hide (below_allocL w (.cells #[.int .i64 lv, .string t, .string c, .string d, .string b] 50))
      go_wp2_with fail
      refine (unhide HP _).mono ?_
      rintro e _ ⟨rfl, rfl⟩
      go_wp2_with fail
      have TN := hide ((unhide HT).below (unhide HA))
      clear HT
      generalize w.alloc (.cells #[.int .i64 lv, .string t, .string c, .string d, .string b] 50) = Y at *
      refine (unhide HN _ (unhide TN)).mono ?_
      rintro e w1 ⟨rfl, b1⟩
      have KN := hide ((unhide K).below b1)
      have T1 := hide ((unhide TN).below b1)
      have B1 := hide ((unhide HA).trans (b1.mono (unhide HA).size))
      clear K TN HA b1 HP HN
      have k := unhide KN
      have c0 := k.cell 0
      have c1 := k.cell 1
      have c2 := k.cell 2
      have c3 := k.cell 3
      have c4 := k.cell 4
      simp only [List.getElem?_toArray, List.getElem?_cons_succ, List.getElem?_cons_zero] at c0 c1 c2 c3 c4
      clear k
      go_wp2_with fail
      refine (unhide HB _).mono ?_
      rintro e w2 ⟨rfl, b2⟩
      have B2 := hide ((unhide B1).trans (b2.mono (unhide B1).size))
      have T2 := hide ((unhide T1).below b2)
      clear B1 T1 b2 HB c0 c1 c2 c3 c4 KN
      go_wp2_with fail
      refine (unhide HD _ (unhide T2)).mono ?_
      rintro e w3 ⟨v3, rfl, o3, b3⟩
      have B3 := hide ((unhide B2).trans (b3.mono (unhide B2).size))
      have O3 := hide (own_monoH o3 (unhide B2).size)
      clear B2 b3 o3 T2 HD
      go_wp2
      go_ret2
      exact ⟨_, rfl, unhide O3, unhide B3⟩

end Go.Proofs.YtedpimhhbajljaaGreatDoor
