/-
  Proved: missivetop.TopFramed answers true for every two lists of uint32 and every int, and leaves its arguments as they were, where the table rec.halves lies as the program's text lays it (tied to that text by the card); no other condition.
-/
import Derived.Test.YtekcbkaanlngdabDoorCards
import Derived.Test.YtekcbkaanlngdabDoorTie
import Derived.Test.YtekcbkaanlngdabDoorLiv
import Derived.Test.YtekcbkaanlngdabDoorTrn
import Derived.Test.YtekcbkaanlngdabDoorIrw
import Derived.Deep.Cut
import Derived.ProofKit
import Derived.OpenShut
import Derived.ShutString
import Derived.ChangeOld
import Derived.Below
import Derived.SizedLaws
import Derived.Deep.DeepHandedRow
import Derived.Lib.LaidTab
import Derived.SliceStrings
import Derived.JoinedCond
set_option linter.unusedVariables false
namespace Go.Proofs.YtekcbkaanlngdabDoor.topFramed
open Go.ChangeShapes Go.WideShapes Go.ChangeAt Go.RowKit Go.Proofs.Num Go.Proofs.Crc Go.Proofs.Frm
open Go.ChangeMaps (open_string shut_string)

/-- The lists' first answers: if one of them has none, nothing more is asked. -/
theorem listR_code (l : List Nat) : (listR l).2 = 0 ∨ (listR l).2 = 1 ∨ (listR l).2 = 12 := by
  unfold listR
  split
  · simp
  · split <;> simp

set_option maxHeartbeats 1000000 in
set_option maxRecDepth 100000 in
theorem walk_no (v v' : Value) (l r : List Nat) (a2 : Int) (w : World) (hv : Row w v l) (hv' : Row w v' r) (h : (listR l).2 ≠ 0 ∨ (listR r).2 ≠ 0) :
    Calls Tryd.prog 8 #[v, v', .int .i64 a2] w fun e w' => e = .returned (.bool true) ∧ Below w.heap.size w w' := by
  have HV := hide hv
  have HV' := hide hv'
  clear hv hv'
  have HC := hide (fun w h => list_any v l w h)
  have HD := hide (fun w h => list_any v' r w h)
  generalize bts (listR l).1 = S at HC
  generalize bts (listR r).1 = T at HD
  generalize (listR l).2 = c at HC h
  generalize (listR r).2 = d at HD h
  by_cases hc : c = 0
  · subst hc
    have hd : ((d : Int) == 0) = false := by have : d ≠ 0 := by simpa using h
                                             simp; omega
    clear h
    go_enter Tryd.func8, Tryd.ntmps8
    go_wp2_with fail
    refine (begins_any _).mono ?_
    rintro e w1 ⟨rfl, b1⟩
    go_wp2_with fail
    refine (unhide HC _ ((unhide HV).below b1)).mono ?_
    rintro e w2 ⟨rfl, b2⟩
    go_wp2_with fail
    refine (unhide HD _ (((unhide HV').below b1).below b2)).mono ?_
    rintro e w3 ⟨rfl, b3⟩
    go_wp2
    go_ret
    exact ⟨rfl, belows (belows b1 b2) b3⟩
  · have hd : ((c : Int) == 0) = false := by simp; omega
    clear h
    go_enter Tryd.func8, Tryd.ntmps8
    go_wp2_with fail
    refine (begins_any _).mono ?_
    rintro e w1 ⟨rfl, b1⟩
    go_wp2_with fail
    refine (unhide HC _ ((unhide HV).below b1)).mono ?_
    rintro e w2 ⟨rfl, b2⟩
    go_wp2_with fail
    refine (unhide HD _ (((unhide HV').below b1).below b2)).mono ?_
    rintro e w3 ⟨rfl, b3⟩
    go_wp2
    go_ret
    exact ⟨rfl, belows (belows b1 b2) b3⟩

/-- What Join answers for two texts. -/
theorem join_two (x y : ByteArray) (w : World) (ht : Tab w) (hx : x.size ≤ 9223372036854775807) (hy : y.size ≤ 9223372036854775807) :
    Calls Tryd.prog 16 #[.slice (some ⟨w.heap.size, 0, none⟩) 2 2] (w.alloc (.cells #[.string x, .string y] 9)) fun e w' => e = .returned (.tuple #[.string (bts (joinR [x.data.toList, y.data.toList]).1), .int .i64 (joinR [x.data.toList, y.data.toList]).2]) ∧ Below w.heap.size w w' := by
  refine (join_any _ [x, y] _ (tab_alloc ht _) (by simp) (rowS_two w x y hx hy)).mono ?_
  rintro e w' ⟨rfl, hb⟩
  exact ⟨rfl, below_alloc' hb⟩

theorem read_list (l : List Nat) (S : List UInt8) (w : World) (hl : ∀ n ∈ l, n ≤ 4294967295) (hS : listR l = (S, 0)) (hz : S.length ≤ 1048576) :
    Calls Tryd.prog 23 #[.string (bts S)] w fun e w' => ∃ u, e = .returned (.tuple #[u, .string { data := #[] }, .int .i64 0]) ∧ Row w' u l ∧ Below w.heap.size w w' := by
  have hr := readR_listR l S [] hl hS
  rw [List.append_nil] at hr
  refine (read_any (bts S) w (by rw [size_bts]; omega)).mono ?_
  rintro e w' ⟨u, x, c, rfl, hR, hb⟩
  unfold ReadIs at hR
  rw [toList_bts, hr] at hR
  obtain ⟨h1, rfl, rfl⟩ := hR
  refine ⟨u, ?_, h1, hb⟩
  have : (bts S).extract S.length (bts S).size = { data := #[] } := by
    apply ext_list
    rw [toList_from, toList_bts, List.drop_length]
  rw [this]
  rfl

theorem row_bound {w : World} {v : Value} {l : List Nat} (h : Row w v l) : ∀ n ∈ l, n ≤ 4294967295 := by
  obtain ⟨_, _, _, _, h, _⟩ := h
  exact h

theorem rowS_pair {w : World} {v : Value} {x y : ByteArray} (h : RowS w v [x, y]) : ∃ b off cap, v = .slice (some ⟨b, off, none⟩) 2 cap ∧ b < w.heap.size ∧ w.cell? ⟨b, off, none⟩ = some (.string x) ∧ w.cell? ⟨b, off + 1, none⟩ = some (.string y) := by
  obtain ⟨a, cap, rfl, _, _, h⟩ := h
  rcases h with h | ⟨b, off, rfl, hb, hc⟩
  · simp at h
  · exact ⟨b, off, cap, rfl, hb, by simpa using hc 0 (by simp), by simpa using hc 1 (by simp)⟩

theorem rowS_len {w : World} {v : Value} {l : List ByteArray} {k : Nat} (h : RowS w v l) (hk : l.length = k) : ∃ a cap, v = .slice a k cap := by
  obtain ⟨a, cap, rfl, _⟩ := h
  exact ⟨a, cap, by rw [hk]⟩

set_option maxHeartbeats 2000000 in
set_option maxRecDepth 100000 in
theorem walk_main (v v' : Value) (l r : List Nat) (c : Nat) (w : World) (ht : Tab w) (hv : Row w v l) (hv' : Row w v' r) (S T : List UInt8) (hS : listR l = (S, 0)) (hT : listR r = (T, 0)) (hz : S.length ≤ 1048576) (hz' : T.length ≤ 1048576) (hc : c ≤ (joinedL [S, T]).length) :
    Calls Tryd.prog 8 #[v, v', .int .i64 c] w fun e w' => e = .returned (.bool true) ∧ Below w.heap.size w w' := by
  have HV := hide hv
  have HV' := hide hv'
  have HT := hide ht
  clear hv hv' ht
  have HC := hide (fun w h => list_any v l w h)
  have HD := hide (fun w h => list_any v' r w h)
  rw [hS] at HC
  rw [hT] at HD
  have HJ := hide (fun w ht => join_two (bts S) (bts T) w ht (by rw [size_bts]; omega) (by rw [size_bts]; omega))
  have hall : ∀ s ∈ [S, T], s.length ≤ 1048576 := by intro s hs; simp at hs; rcases hs with rfl | rfl <;> assumption
  have hj : joinR [S, T] = (joinedL [S, T], 0) := joinR_all hall
  rw [toList_bts, toList_bts, hj] at HJ
  have ha := allR_joined [S, T] hall
  obtain ⟨k, k1, k2, k3, k4⟩ := allR_torn [S, T] c hall hc
  have hl2 : (joinedL [S, T]).length ≤ 2097180 := by
    have := frame_le S hz
    have := frame_le T hz'
    rw [joinedL_cons, joinedL_cons, joinedL_nil]
    simp
    omega
  have hk2 : c = (joinedL [S, T]).length → k = 2 := by
    intro he
    have hk' : k ≤ 2 := k1
    match k, hk', k4 with
    | 0, _, k4 => 
      have := k4 (by simp)
      rw [he] at this
      simp [joinedL] at this
      omega
    | 1, _, k4 =>
      have := k4 (by simp)
      rw [he] at this
      simp at this
    | 2, _, _ => rfl
  have hkl : ([S, T].take k).length = k := by rw [List.length_take]; exact Nat.min_eq_left k1
  have k1' : k ≤ 2 := k1
  -- the calls of All
  have HA := hide (fun w ht => all_any (bts (joinedL [S, T])) w ht (by rw [size_bts]; omega))
  rw [toList_bts, ha] at HA
  have hex : ((bts (joinedL [S, T])).extract 0 c).data.toList = (joinedL [S, T]).take c := by rw [toList_upto, toList_bts]
  have hexs : ((bts (joinedL [S, T])).extract 0 c).size ≤ 1099511627776 := by rw [ByteArray.size_extract, size_bts]; omega
  have HB := hide (fun w ht => all_any ((bts (joinedL [S, T])).extract 0 c) w ht hexs)
  rw [hex, k2] at HB
  have HR1 := hide (fun w => read_list l S w (row_bound (unhide HV)) hS hz)
  have HR2 := hide (fun w => read_list r T w (row_bound (unhide HV')) hT hz')
  have hsz := size_bts (joinedL [S, T])
  have e1 : ∀ l' : List ByteArray, lists l' = [S, T] → l' = [bts S, bts T] := fun l' h => lists_inj (by rw [h]; simp [lists, toList_bts])
  have e2 : ∀ l' : List ByteArray, lists l' = [S, T].take k → l'.length = k := fun l' h => by
    have := congrArg List.length h
    rw [hkl] at this
    simpa [lists] using this
  have E1 := hide e1
  have E2 := hide e2
  have k3' : (joinedL (List.take k [S, T])).length ≤ c := k3
  clear e1 e2 hS hT hz hz' hall hj ha k1 k2 k3 k4 hex hexs hkl
  generalize bts S = SS at *
  generalize bts T = TT at *
  generalize (joinedL (List.take k [S, T])).length = q at *
  obtain ⟨F, hF⟩ : ∃ F, F = bts (joinedL [S, T]) := ⟨_, rfl⟩
  rw [← hF] at HA HB HJ hsz
  clear hF
  generalize (joinedL [S, T]).length = N at *
  have ks : ∀ w : World, (Instr.slice 9 (.string F) none (some (.int .i64 (c : Int))) none).run Tryd.prog w = .ok (.string (F.extract 0 c)) w := by
    intro w
    have h := run_slice_string_h (P := Tryd.prog) w 9 F Tryd.underlying9 .i64 (c : Int) (by omega) (by omega)
    rwa [Int.toNat_natCast] at h
  obtain ⟨G, hG⟩ : ∃ G, G = F.extract 0 c := ⟨_, rfl⟩
  rw [← hG] at HB
  simp only [← hG] at ks
  clear hG
  go_enter Tryd.func8, Tryd.ntmps8
  go_wp2_with fail
  refine (begins_any _).mono ?_
  rintro e w1 ⟨rfl, b1⟩
  go_wp2_with fail
  refine (unhide HC _ ((unhide HV).below b1)).mono ?_
  rintro e w2 ⟨rfl, b2⟩
  go_wp2_with fail
  refine (unhide HD _ (((unhide HV').below b1).below b2)).mono ?_
  rintro e w3 ⟨rfl, b3⟩
  go_wp2_with fail
  refine (unhide HJ _ ((((unhide HT).below b1).below b2).below b3)).mono ?_
  rintro e w4 ⟨rfl, b4⟩
  have b4' := belows (belows (belows b1 b2) b3) b4
  have H4 := hide ((unhide HT).below b4')
  clear b1 b2 b3 b4
  go_wp2_with fail
  refine (unhide HA _ (unhide H4)).mono ?_
  rintro e w5 ⟨u, l', rfl, hu, hl', b5⟩
  rw [unhide E1 _ hl'] at hu
  obtain ⟨b, off, cap, rfl, hb, hc0, hc1⟩ := rowS_pair hu
  have b5' := belows b4' b5
  have H5 := hide ((unhide HT).below b5')
  clear hu hl' b4' b5 H4
  go_wp2_with fail
  refine (unhide HR1 _).mono ?_
  rintro e w6 ⟨x, rfl, hx, b6⟩
  have hd1 : w6.cell? ⟨b, off + 1, none⟩ = some (.string TT) := by rw [b6.cell (p := ⟨b, off + 1, none⟩) hb]; exact hc1
  have b6' := belows b5' b6
  have H6 := hide ((unhide H5).below b6)
  have HX := hide hx
  clear hx hc0 hc1 hb H5 b5' b6
  go_wp2_with fail
  refine (unhide HR2 _).mono ?_
  rintro e w7 ⟨y, rfl, hy, b7⟩
  have HX7 := hide ((unhide HX).below b7)
  have HY := hide hy
  have b7' := belows b6' b7
  have H7 := hide ((unhide H6).below b7)
  clear hy hd1 H6 b6' b7 HX
  go_wp2_with fail
  refine (unhide HB _ (unhide H7)).mono ?_
  rintro e w8 ⟨u, m, rfl, hm, hml, b8⟩
  obtain ⟨ma, mc, rfl⟩ := rowS_len hm (unhide E2 _ hml)
  have HX8 := hide ((unhide HX7).below b8)
  have HY8 := hide ((unhide HY).below b8)
  have b8' := belows b7' b8
  have HV8 := hide ((unhide HV).below b8')
  have HW8 := hide ((unhide HV').below b8')
  clear hm hml H7 b7' b8 HX7 HY
  have hkc : (q : Int) ≤ (c : Int) := by omega
  go_wp2_with fail
  refine (same_any x v l l _ (unhide HX8) (unhide HV8)).mono ?_
  rintro e w9 ⟨rfl, b9⟩
  rw [show decide (l = l) = true by simp]
  have HY9 := hide ((unhide HY8).below b9)
  have HW9 := hide ((unhide HW8).below b9)
  go_wp2_with fail
  refine (same_any y v' r r _ (unhide HY9) (unhide HW9)).mono ?_
  rintro e w10 ⟨rfl, b10⟩
  rw [show decide (r = r) = true by simp]
  by_cases hlast : c < N
  · have hlast' : (c : Int) < (N : Int) := by omega
    go_wp2_with fail
    go_ret
    exact ⟨rfl, belows (belows b8' b9) b10⟩
  · have hk := hk2 (by omega)
    have hlast' : (N : Int) ≤ (c : Int) := by omega
    subst hk
    go_wp2_with fail
    go_ret
    exact ⟨rfl, belows (belows b8' b9) b10⟩

set_option maxHeartbeats 1000000 in
set_option maxRecDepth 100000 in
theorem walk_out (v v' : Value) (l r : List Nat) (c : Int) (w : World) (ht : Tab w) (hv : Row w v l) (hv' : Row w v' r) (S T : List UInt8) (hS : listR l = (S, 0)) (hT : listR r = (T, 0)) (hz : S.length ≤ 1048576) (hz' : T.length ≤ 1048576) (hc : c < 0 ∨ ((joinedL [S, T]).length : Int) < c) :
    Calls Tryd.prog 8 #[v, v', .int .i64 c] w fun e w' => e = .returned (.bool true) ∧ Below w.heap.size w w' := by
  have HV := hide hv
  have HV' := hide hv'
  have HT := hide ht
  clear hv hv' ht
  have HC := hide (fun w h => list_any v l w h)
  have HD := hide (fun w h => list_any v' r w h)
  rw [hS] at HC
  rw [hT] at HD
  have HJ := hide (fun w ht => join_two (bts S) (bts T) w ht (by rw [size_bts]; omega) (by rw [size_bts]; omega))
  have hall : ∀ s ∈ [S, T], s.length ≤ 1048576 := by intro s hs; simp at hs; rcases hs with rfl | rfl <;> assumption
  have hj : joinR [S, T] = (joinedL [S, T], 0) := joinR_all hall
  rw [toList_bts, toList_bts, hj] at HJ
  have hsz := size_bts (joinedL [S, T])
  have hl2 : (joinedL [S, T]).length ≤ 2097180 := by
    have := frame_le S hz
    have := frame_le T hz'
    rw [joinedL_cons, joinedL_cons, joinedL_nil]
    simp
    omega
  clear hS hT hz hz' hall hj
  generalize bts S = SS at *
  generalize bts T = TT at *
  generalize bts (joinedL [S, T]) = F at *
  generalize (joinedL [S, T]).length = N at *
  by_cases h0 : c < 0
  · clear hc
    go_enter Tryd.func8, Tryd.ntmps8
    go_wp2_with fail
    refine (begins_any _).mono ?_
    rintro e w1 ⟨rfl, b1⟩
    go_wp2_with fail
    refine (unhide HC _ ((unhide HV).below b1)).mono ?_
    rintro e w2 ⟨rfl, b2⟩
    go_wp2_with fail
    refine (unhide HD _ (((unhide HV').below b1).below b2)).mono ?_
    rintro e w3 ⟨rfl, b3⟩
    go_wp2_with fail
    refine (unhide HJ _ ((((unhide HT).below b1).below b2).below b3)).mono ?_
    rintro e w4 ⟨rfl, b4⟩
    go_wp2_with fail
    go_ret
    exact ⟨rfl, belows (belows (belows b1 b2) b3) b4⟩
  · have h1 : (N : Int) < c := by omega
    clear hc
    go_enter Tryd.func8, Tryd.ntmps8
    go_wp2_with fail
    refine (begins_any _).mono ?_
    rintro e w1 ⟨rfl, b1⟩
    go_wp2_with fail
    refine (unhide HC _ ((unhide HV).below b1)).mono ?_
    rintro e w2 ⟨rfl, b2⟩
    go_wp2_with fail
    refine (unhide HD _ (((unhide HV').below b1).below b2)).mono ?_
    rintro e w3 ⟨rfl, b3⟩
    go_wp2_with fail
    refine (unhide HJ _ ((((unhide HT).below b1).below b2).below b3)).mono ?_
    rintro e w4 ⟨rfl, b4⟩
    go_wp2_with fail
    go_ret
    exact ⟨rfl, belows (belows (belows b1 b2) b3) b4⟩

theorem listR_le {l : List Nat} {S : List UInt8} (hl : ∀ n ∈ l, n ≤ 4294967295) (h : listR l = (S, 0)) : S.length ≤ 1048576 := by
  unfold listR at h
  split at h
  · simp at h
  · rename_i h6
    split at h
    · simp at h
    · rename_i b hb
      have h1 := gaps_length l 0 b hl hb
      have h2 := putL_len10 (n := l.length) (by omega)
      simp at h
      rw [← h, List.length_append]
      omega

theorem walk (a0 : Option Addr) (len0 cap0 : Nat) (z0 : List Int) (a1 : Option Addr) (len1 cap1 : Nat) (z1 : List Int) (a2 : Int) (w : World) (ht : Tab w) (w0 : IsRow .u32 w a0 len0 cap0 z0) (w1 : IsRow .u32 w a1 len1 cap1 z1) (w2 : (Lit.int .i64 a2).wf = true) :
    Calls Tryd.prog 8 #[.slice a0 len0 cap0, .slice a1 len1 cap1, .int .i64 a2] w fun e w' => e = .returned (.bool true) ∧ Below w.heap.size w w' := by
  obtain ⟨l, hv⟩ := row_of_isRow w0
  obtain ⟨r, hv'⟩ := row_of_isRow w1
  by_cases h : (listR l).2 ≠ 0 ∨ (listR r).2 ≠ 0
  · exact walk_no _ _ l r a2 w hv hv' h
  · have hS : listR l = ((listR l).1, 0) := Prod.ext rfl (by simp at h; exact h.1)
    have hT : listR r = ((listR r).1, 0) := Prod.ext rfl (by simp at h; exact h.2)
    have zS := listR_le (row_bound hv) hS
    have zT := listR_le (row_bound hv') hT
    by_cases hc : a2 < 0 ∨ ((joinedL [(listR l).1, (listR r).1]).length : Int) < a2
    · exact walk_out _ _ l r a2 w ht hv hv' _ _ hS hT zS zT hc
    · obtain ⟨c, rfl⟩ := Int.eq_ofNat_of_zero_le (show 0 ≤ a2 by omega)
      exact walk_main _ _ l r c w ht hv hv' _ _ hS hT zS zT (by omega)

theorem own : ownKnob Tryd.prog.godebug = none := by kernel_rfl
theorem laidOut : laidOutB Tryd.prog = true := by kernel_rfl
theorem gTab : Tryd.prog.globalNamed "missive/rec.halves" = some 0 := by kernel_rfl
theorem gTabType : (Tryd.prog.globals[0]?).map (·.type) = some 65 := by kernel_rfl
theorem cellsArr : Tryd.prog.cellsOf 65 = 16 := by kernel_rfl
theorem cellsElem : Tryd.prog.cellsOf 28 = 1 := by kernel_rfl
theorem halves_tab : ∀ j : Fin 16, ([0, 498536548, 997073096, 651767980, 1994146192, 1802195444, 1303535960, 1342533948, 3988292384, 4027552580, 3604390888, 3412177804, 2607071920, 2262029012, 2685067896, 3183342108] : List Int).getD j.val 0 = (Go.Proofs.Crc.tab j.val : Int) := by decide +kernel

theorem table {W : World} (h : laidMetH Tryd.prog Rows.topFramedRow.laid W) : Tab W := by
  have t : Lib.TabIs Tryd.prog W "missive/rec.halves" .u32 [0, 498536548, 997073096, 651767980, 1994146192, 1802195444, 1303535960, 1342533948, 3988292384, 4027552580, 3604390888, 3412177804, 2607071920, 2262029012, 2685067896, 3183342108] :=
    Lib.tabIs_of_head (rest := []) gTab gTabType Tryd.underlying65 Tryd.underlying28 cellsElem cellsArr h
  have c : ∀ j, j < 16 → W.cell? ⟨0, j, none⟩ = some (.int .u32 (Go.Proofs.Crc.tab j : Int)) := by
    intro j hj
    rw [t.cell gTab j (by simpa using hj), halves_tab ⟨j, hj⟩]
  refine ⟨?_, c⟩
  rcases Nat.lt_or_ge 0 W.heap.size with h' | h'
  · exact h'
  · have := c 0 (by omega)
    simp [World.cell?, Array.getElem?_eq_none h'] at this

set_option maxRecDepth 100000 in
theorem contract (H : Type) (enc : TypeId × Value → H) (W : World) (base : Nat) (args : Array Value) (ds gs : List (DataW H)) (before : List MemPlace)
    (hval : ∀ (j : Nat) t v, Tryd.f8.params[j]? = some t → args[j]? = some v → Value.okWide Tryd.prog W .any base t v)
    (hW : DataW.Whole enc Tryd.prog Tryd.f8.params.toList Rows.topFramedSpec.vars false W args.toList ds gs before)
    (hsz : (DataW.weightsEach Tryd.prog (Tryd.f8.params.toList ++ Rows.topFramedSpec.plain.varTypes Tryd.prog) (ds ++ gs)).all (· ≤ reachBytes) = true) (hL : laidMetH Tryd.prog Rows.topFramedRow.laid W) :
    Calls Tryd.prog 8 args W fun e W' => ∃ v, e = .returned v ∧ Rows.topFramedSpec.post enc Tryd.prog Tryd.f8 false true false false W args v W' := by
  have hW' := hW
  obtain ⟨p, q, hA0, hV, rfl, hfz, hnd⟩ := hW
  have hA : DataW.TrodAll enc Tryd.prog W 0 (fun _ => true) true Tryd.f8.params.toList args.toList ds p := hA0
  rw [Tryd.params8] at hA hval hsz
  obtain ⟨v0, vs0, d0, ds0, p0, q0, hargs, rfl, rfl, h0, r0⟩ := trodAll_cons hA
  obtain ⟨v1, vs1, d1, ds1, p1, q1, rfl, rfl, rfl, h1, r1⟩ := trodAll_cons r0
  obtain ⟨v2, vs2, d2, ds2, p2, q2, rfl, rfl, rfl, h2, r2⟩ := trodAll_cons r1
  obtain ⟨rfl, rfl, rfl⟩ := trodAll_nil r2
  obtain rfl : args = #[v0, v1, v2] := by cases args; simp_all
  obtain ⟨rfl, rfl⟩ := trodVars_none hV
  obtain ⟨a0, len0, cap0, rfl⟩ := okWide_slice Tryd.underlying40 (hval 0 40 v0 rfl rfl)
  have k0 := h0
  have lt0 : ∀ x ∈ p0, x.block < W.heap.size := by obtain ⟨m, hm⟩ := k0; exact DataW.trod_lt m _ _ _ hm
  obtain ⟨z0, w0⟩ : ∃ zs, IsRow .u32 W a0 len0 cap0 zs := by
    obtain ⟨fuel, hf⟩ := h0
    rcases open_ints Tryd.underlying40 Tryd.underlying28 (by kernel_rfl) hf with ⟨hcs, _⟩ | ⟨x, l, c, zs, hcs, _, hl, hm, hz, _, hcell, hwz⟩
    · simp [Value.cells] at hcs
      obtain ⟨rfl, rfl, rfl⟩ := hcs
      exact ⟨[], .inl ⟨rfl, rfl, rfl, rfl⟩⟩
    · simp [Value.cells] at hcs
      obtain ⟨rfl, rfl, rfl⟩ := hcs
      exact ⟨zs, .inr ⟨_, rfl, hl, hm, by simpa using hz, hcell, hwz⟩⟩
  obtain ⟨a1, len1, cap1, rfl⟩ := okWide_slice Tryd.underlying40 (hval 1 40 v1 rfl rfl)
  have k1 := h1
  have lt1 : ∀ x ∈ p1, x.block < W.heap.size := by obtain ⟨m, hm⟩ := k1; exact DataW.trod_lt m _ _ _ hm
  obtain ⟨z1, w1⟩ : ∃ zs, IsRow .u32 W a1 len1 cap1 zs := by
    obtain ⟨fuel, hf⟩ := h1
    rcases open_ints Tryd.underlying40 Tryd.underlying28 (by kernel_rfl) hf with ⟨hcs, _⟩ | ⟨x, l, c, zs, hcs, _, hl, hm, hz, _, hcell, hwz⟩
    · simp [Value.cells] at hcs
      obtain ⟨rfl, rfl, rfl⟩ := hcs
      exact ⟨[], .inl ⟨rfl, rfl, rfl, rfl⟩⟩
    · simp [Value.cells] at hcs
      obtain ⟨rfl, rfl, rfl⟩ := hcs
      exact ⟨zs, .inr ⟨_, rfl, hl, hm, by simpa using hz, hcell, hwz⟩⟩
  obtain ⟨a2, rfl, rfl, rfl, w2⟩ := open_int Tryd.underlying3 (hval 2 3 v2 rfl rfl) h2
  clear hA0
  refine (walk a0 len0 cap0 z0 a1 len1 cap1 z1 a2 W (table hL) w0 w1 w2).mono fun e W' ⟨he, bel⟩ => ?_
  subst he
  exact ⟨_, rfl, _, _, _, [], _, [], hW', trodAll_mk1 (shut_bool Tryd.underlying4 _), (trodAll_cons_mk (Below.trod laidOut (by kernel_rfl) (of_decide_eq_true (by kernel_rfl)) k0 bel lt0) (trodAll_cons_mk (Below.trod laidOut (by kernel_rfl) (of_decide_eq_true (by kernel_rfl)) k1 bel lt1) (trodAll_cons_mk (shut_int Tryd.underlying3 w2) trodAll_mk0))), rfl, bel.frame _, fun h => by cases h⟩

noncomputable def laidWorld (os : Os) : World :=
  { World.holding Tryd.prog os ⟨#[], #[], []⟩ with heap := (World.holding Tryd.prog os ⟨#[], #[], []⟩).heap.modify 0 fun
      | .cells _ t frozen => .cells #[.int .u32 0, .int .u32 498536548, .int .u32 997073096, .int .u32 651767980, .int .u32 1994146192, .int .u32 1802195444, .int .u32 1303535960, .int .u32 1342533948, .int .u32 3988292384, .int .u32 4027552580, .int .u32 3604390888, .int .u32 3412177804, .int .u32 2607071920, .int .u32 2262029012, .int .u32 2685067896, .int .u32 3183342108] t frozen
      | o => o }
theorem laid_met (os : Os) : laidMet Tryd.prog Rows.topFramedRow.laid ((laidWorld os).forCall (fun _ _ => 0) ⟨#[], #[.slice none 0 0, .slice none 0 0, .int .i64 0], []⟩).memory :=
  laidMet_of_run' 8 (by kernel_rfl) (by kernel_rfl)
theorem reads (os : Os) {H : Type} (enc : TypeId × Value → H) : ∃ places, DataW.whole enc Tryd.prog ((laidWorld os).forCall (fun _ _ => 0) ⟨#[], #[.slice none 0 0, .slice none 0 0, .int .i64 0], []⟩).memory Tryd.f8.params.toList Rows.topFramedSpec.vars false (#[.slice none 0 0, .slice none 0 0, .int .i64 0] : Array Value).toList 8 = some ([.nil, .nil, .lit (.int .i64 0)], [], places) :=
  ⟨[], by kernel_rfl⟩

set_option maxRecDepth 100000 in
theorem lifted (os : Os) (started : os.Started) (H : Type) (enc : TypeId × Value → H) (F : Stop.Interp) :
    ReturnsInHanded {} Tryd.checked os 8 .any ((OpenSpec.ofChange Rows.topFramedSpec).preRow enc Tryd.prog Tryd.f8 Rows.topFramedRow.domain false Rows.topFramedRow.laid) (((OpenSpec.ofChange Rows.topFramedSpec).at F).post enc Tryd.prog Tryd.f8 false true false false) := by
  obtain ⟨places, hx⟩ := reads os enc
  refine returnsInHanded_of_row (C := Tryd.checked) (s := OpenSpec.ofChange Rows.topFramedSpec) own started (by kernel_rfl) Tryd.func8
    (witness_row_at (enc := enc) (C := Tryd.checked) false (laidWorld os) #[.slice none 0 0, .slice none 0 0, .int .i64 0] rfl (by kernel_rfl) (by kernel_rfl) (by kernel_rfl)
      (OpenSpec.preRow_of_cond 8 hx (by kernel_rfl) (fun k hk => by cases hk) (by kernel_rfl) (laid_met os))) ?_
  intro W base args ds gs before hval hW _ hcond hsz hL _ _
  exact contract H enc W base args ds gs before hval hW hsz hL

theorem said : Rows.TopFramedSaid :=
  OpenClaim.holds_of_cond 8 Tryd.f8 rfl rfl rfl rfl rfl rfl rfl ⟨rfl, rfl, rfl, rfl, rfl⟩ rfl rfl rfl rfl rfl (by kernel_rfl) Tryd.func8 (by kernel_rfl)
    (of_decide_eq_true (by kernel_rfl)) (by unfold Func.isWrapper; first | (rw [if_pos (by decide +kernel)]; kernel_rfl) | (rw [if_neg (by decide +kernel)]; exact ⟨rfl, rfl⟩))
    (fun os started H enc _ F => by rw [OpenClaim.pre_eq_preRow]; exact lifted os started H enc F)

theorem plain (f : FuncId) (fn : Func) (hf : Tryd.pinned.checked.prog.funcNamed "missive/missivetop.TopFramed" = some f) (hfn : Tryd.pinned.checked.prog.funcs[f]? = some fn) :
    false = Tryd.pinned.checked.prog.looks [] ∧ ∀ (j : Nat) t, fn.params[j]? = some t → Tryd.pinned.checked.prog.wantsStandIn t = false := by
  obtain rfl : f = 8 := Option.some.inj ((show Tryd.prog.funcNamed "missive/missivetop.TopFramed" = some 8 by kernel_rfl).symm.trans hf) |>.symm
  obtain rfl : fn = Tryd.f8 := (Option.some.inj (Tryd.func8.symm.trans hfn)).symm
  refine ⟨by kernel_rfl, fun j t ht => ?_⟩
  rw [Tryd.params8] at ht
  have hm := Array.mem_of_getElem? ht
  simp at hm
  rcases hm with rfl | rfl
  · exact (show Tryd.prog.wantsStandIn 40 = false by kernel_rfl)
  · exact (show Tryd.prog.wantsStandIn 3 = false by kernel_rfl)

theorem card : Rows.TopFramedCardSaid :=
  Claim7.holds_tied_plain_at .later [] _ _ _ _ said (fun _ h => by cases h) (by kernel_rfl) (fun _ h => by cases h) topFramed_row_tie rfl ⟨rfl, rfl⟩ (by kernel_rfl) rfl plain (by kernel_rfl)

end Go.Proofs.YtekcbkaanlngdabDoor.topFramed
namespace Go.Proofs.YtekcbkaanlngdabDoor
/-- The statement. -/
theorem topFramed_holds : Rows.TopFramedCardSaid := topFramed.card
#print axioms topFramed_holds
end Go.Proofs.YtekcbkaanlngdabDoor
