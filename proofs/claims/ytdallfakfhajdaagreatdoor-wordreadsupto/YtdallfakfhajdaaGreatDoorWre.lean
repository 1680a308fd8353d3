/-
  What missiveref09.Decode and Words, and missivelaw09.WordReads do, over this seat's program: the last one answers true.
-/
import Derived.Test.YtdallfakfhajdaaGreatDoorRwb
import Derived.Test.YtdallfakfhajdaaGreatDoorWlw
set_option linter.unusedVariables false
namespace Go.Proofs.YtdallfakfhajdaaGreatDoor
open Go.RowKit Go.Proofs.Enc Go.Proofs.Rns

set_option maxHeartbeats 1000000 in
set_option maxRecDepth 100000 in
theorem refDecodeW_any (s : ByteArray) (w : World) (hs : s.size ≤ 1048576) :
    Calls Tryz.prog 14 #[.string s] w fun e w' => (∃ v, e = .returned v ∧ RowI w' v (ints (flP (pcW s.data.toList)))) ∧ Below w.heap.size w w' := by
  have HB := hide (refBoth_any s w hs)
  generalize wdN (pcW s.data.toList) = n at HB
  go_enter Tryz.func14, Tryz.ntmps14
  go_wp2_with fail
  refine (unhide HB).mono ?_
  rintro e w1 ⟨⟨v, rfl, hv⟩, b1⟩
  have HV := hide hv
  clear hv HB
  go_wp2
  go_ret
  exact ⟨⟨v, rfl, unhide HV⟩, b1⟩
set_option maxHeartbeats 1000000 in
set_option maxRecDepth 100000 in
theorem refWordsW_any (s : ByteArray) (w : World) (hs : s.size ≤ 1048576) :
    Calls Tryz.prog 16 #[.string s] w fun e w' => e = .returned (.int .i64 (wdN (pcW s.data.toList) : Nat)) ∧ Below w.heap.size w w' := by
  have HB := hide (refBoth_any s w hs)
  generalize wdN (pcW s.data.toList) = n at HB
  go_enter Tryz.func16, Tryz.ntmps16
  go_wp2_with fail
  refine (unhide HB).mono ?_
  rintro e w1 ⟨⟨v, rfl, hv⟩, b1⟩
  clear hv HB
  go_wp2
  go_ret
  exact ⟨rfl, b1⟩

def oneW2 (l : List UInt8) : Nat × List UInt8 × List Nat := match oneD l with
  | none => (7, [], [])
  | some p => (0, p.2, p.1)
theorem oneW_same (l : List UInt8) : oneW l = ((oneW2 l).2.2, (oneW2 l).2.1, (oneW2 l).1) := by
  unfold oneW oneW2
  rw [one_same]
  unfold oneR'
  by_cases h : rdN (rdW l) = 0
  · rw [if_pos h, if_pos h]
  · rw [if_neg h, if_neg h]
theorem oneW2_is (l : List UInt8) : ∀ n ∈ (oneW2 l).2.2, isL (n : Int) = true := by
  unfold oneW2
  cases h : oneD l with
  | none => simp
  | some p =>
    obtain ⟨_, rfl⟩ := one_hit h
    exact rdL_is l
theorem fdW_is : ∀ (l : List UInt8) (k : Nat), ∀ n ∈ (fdW l k).2.1, isL (n : Int) = true
  | [], k, n, h => by simp [fdW] at h
  | a :: r, k, n, h => by
    unfold fdW at h
    split at h
    · exact rdL_is (a :: r) n h
    · exact fdW_is r (k + 1) n h
theorem pcF_is : ∀ (f : Nat) (bw : Bool) (l : List UInt8), ∀ n ∈ flP (pcF f bw l), isL (n : Int) = true
  | 0, bw, l, n, h => by simp [pcF, flP] at h
  | f + 1, bw, l, n, h => by
    unfold pcF at h
    split at h
    · simp [flP] at h
    · rw [flP_append, flP_append, List.mem_append, List.mem_append] at h
      rcases h with (h | h) | h
      · split at h
        · simp only [flP, List.flatMap_cons, List.flatMap_nil, List.append_nil] at h
          exact lettersL_is _ n h
        · simp [flP] at h
      · split at h
        · simp only [flP, List.flatMap_cons, List.flatMap_nil, List.append_nil] at h
          exact fdW_is l 0 n h
        · simp [flP] at h
      · exact pcF_is f true _ n h
/-- One, the document's, as a row. -/
theorem refOneR_any (s : ByteArray) (w : World) (hs : s.size ≤ 4000000) :
    Calls Tryz.prog 10 #[.string s] w fun e w' => (∃ v, e = .returned (.tuple #[v, .string (bts (oneW2 s.data.toList).2.1), .int .i64 ((oneW2 s.data.toList).1 : Nat)]) ∧ RowI w' v (ints (oneW2 s.data.toList).2.2)) ∧ Below w.heap.size w w' := by
  refine (refOneW_any s w hs).mono ?_
  rintro e w' ⟨⟨hno, rfl⟩ | ⟨p, v, hy, rfl, ho⟩, hb⟩
  · refine ⟨⟨.slice none 0 0, ?_, ?_⟩, hb⟩
    · unfold oneW2; rw [hno]; rfl
    · unfold oneW2; rw [hno]; exact ⟨none, 0, rfl, by simp [ints], .inl rfl⟩
  · have hi := oneW2_is s.data.toList
    have he : oneW2 s.data.toList = (0, p.2, p.1) := by unfold oneW2; rw [hy]
    rw [he] at hi ⊢
    exact ⟨⟨v, rfl, own_rowI ho hi⟩, hb⟩

set_option maxHeartbeats 2000000 in
set_option maxRecDepth 100000 in
theorem wordReads_walk (s : ByteArray) (w : World) (ht : TabW w) (hs : s.size ≤ 1048576) :
    Calls Tryz.prog 3 #[.string s] w fun e w' => e = .returned (.bool true) ∧ Below w.heap.size w w' := by
  have HT := hide ht
  have H1 := hide (fun W (h : TabW W) => one_word s W h.tab h.err (by omega))
  have H2 := hide (fun W => refOneR_any s W (by omega))
  have HL := hide livesW_any
  have H3 := hide (fun W (h : TabW W) => decode_word s W h.tab h.err h.max (by omega))
  have H4 := hide (fun W => refDecodeW_any s W hs)
  have H5 := hide (fun W (h : TabW W) => words_word s W h.tab h.err h.max (by omega))
  have H6 := hide (fun W => refWordsW_any s W hs)
  rw [oneW_same] at H1
  simp only at H1
  have HI1 := hide (oneW2_is s.data.toList)
  have HI3 : Hid (∀ n ∈ flP (pcW s.data.toList), isL (n : Int) = true) := hide (pcF_is _ _ _)
  have hfl : (pcW s.data.toList).flatMap (·.1) = flP (pcW s.data.toList) := rfl
  rw [hfl] at H3
  have hle : (ints (flP (pcW s.data.toList))).length ≤ 9223372036854775807 := by
    have := pcW_few s.data.toList
    rw [ints_len]
    unfold flP
    rw [sizeL] at this
    omega
  have hlo : (ints (oneW2 s.data.toList).2.2).length ≤ 9223372036854775807 := by
    have h1 := oneW_same s.data.toList
    have h2 : (oneW s.data.toList).1 = (oneW2 s.data.toList).2.2 := congrArg Prod.fst h1
    have h3 := rdL_le decR_few s.data.toList
    have h4 := rdN_le s.data.toList
    rw [sizeL] at h4
    rw [ints_len, ← h2]
    unfold oneW
    split
    · simp
    · simp only; omega
  generalize flP (pcW s.data.toList) = FL at H3 H4 HI3 hle
  generalize wdN (pcW s.data.toList) = WN at H5 H6
  generalize (oneW2 s.data.toList).2.2 = OL at H1 H2 HI1 hlo
  generalize bts (oneW2 s.data.toList).2.1 = OT at H1 H2
  generalize (oneW2 s.data.toList).1 = ON at H1 H2
  have hbb : (OT.toList == OT.toList) = true := by simp
  clear ht hfl
  go_enter Tryz.func3, Tryz.ntmps3
  go_wp2_with fail
  refine (unhide H1 _ (unhide HT)).mono ?_
  rintro e w1 ⟨v1, rfl, o1, b1⟩
  have HV1 := hide (own_rowI o1 (unhide HI1))
  have HT1 := hide ((unhide HT).below b1)
  have HB1 := hide b1
  clear o1 b1 H1
  go_wp2_with fail
  refine (unhide H2 _).mono ?_
  rintro e w2 ⟨⟨v2, rfl, o2⟩, b2⟩
  have HV2 := hide o2
  have HV1b := hide ((unhide HV1).below b2)
  have HT2 := hide ((unhide HT1).below b2)
  have HB2 := hide (belows' (unhide HB1) b2)
  clear o2 b2 H2 HV1
  go_wp2_with fail
  refine (unhide HL _ (unhide HT2)).mono ?_
  rintro e w3 ⟨rfl, b3⟩
  have HV2c := hide ((unhide HV2).below b3)
  have HV1c := hide ((unhide HV1b).below b3)
  have HT3 := hide ((unhide HT2).below b3)
  have HB3 := hide (belows' (unhide HB2) b3)
  clear b3 HV2 HV1b
  go_wp2_with fail
  refine (unhide H3 _ (unhide HT3)).mono ?_
  rintro e w4 ⟨v4, rfl, o4, b4⟩
  have HV4 := hide (own_rowI o4 (unhide HI3))
  have HV2d := hide ((unhide HV2c).below b4)
  have HV1d := hide ((unhide HV1c).below b4)
  have HT4 := hide ((unhide HT3).below b4)
  have HB4 := hide (belows' (unhide HB3) b4)
  clear o4 b4 H3 HV2c HV1c
  go_wp2_with fail
  refine (unhide H4 _).mono ?_
  rintro e w5 ⟨⟨v5, rfl, o5⟩, b5⟩
  have HV5 := hide o5
  have HV4e := hide ((unhide HV4).below b5)
  have HV2e := hide ((unhide HV2d).below b5)
  have HV1e := hide ((unhide HV1d).below b5)
  have HT5 := hide ((unhide HT4).below b5)
  have HB5 := hide (belows' (unhide HB4) b5)
  clear o5 b5 H4 HV4 HV2d HV1d
  have HS1 := hide (same_any _ _ _ _ w5 (unhide HV4e) (unhide HV5) hle)
  rw [decide_eq_true rfl] at HS1
  go_wp2_with fail
  refine (unhide HS1).mono ?_
  rintro e w6 ⟨rfl, b6⟩
  have HV2f := hide ((unhide HV2e).below b6)
  have HV1f := hide ((unhide HV1e).below b6)
  have HT6 := hide ((unhide HT5).below b6)
  have HB6 := hide (belows' (unhide HB5) b6)
  clear b6 HS1 HV2e HV1e HV4e HV5
  go_wp2_with fail
  refine (unhide H5 _ (unhide HT6)).mono ?_
  rintro e w7 ⟨rfl, b7⟩
  have HV2g := hide ((unhide HV2f).below b7)
  have HV1g := hide ((unhide HV1f).below b7)
  have HB7 := hide (belows' (unhide HB6) b7)
  clear b7 H5 HV2f HV1f
  go_wp2_with fail
  refine (unhide H6 _).mono ?_
  rintro e w8 ⟨rfl, b8⟩
  have HV2h := hide ((unhide HV2g).below b8)
  have HV1h := hide ((unhide HV1g).below b8)
  have HB8 := hide (belows' (unhide HB7) b8)
  clear b8 H6 HV2g HV1g
  have HS2 := hide (same_any _ _ _ _ w8 (unhide HV1h) (unhide HV2h) hlo)
  rw [decide_eq_true rfl] at HS2
  have hww : ((WN : Int) == (WN : Int)) = true := by simp
  go_wp2_with fail
  refine (unhide HS2).mono ?_
  rintro e w9 ⟨rfl, b9⟩
  have HB9 := hide (belows' (unhide HB8) b9)
  clear b9 HS2
  have hoo : ((ON : Int) == (ON : Int)) = true := by simp
  go_wp2
  go_ret
  exact ⟨by first | rfl | simp, unhide HB9⟩
end Go.Proofs.YtdallfakfhajdaaGreatDoor
