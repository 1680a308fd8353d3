/-
  Proved: missivelaw02.RecTorn answers true for every list of strings and every int, and leaves its arguments as they were, where what it reads is of bulk at most 1048576 (the second form), and where the table rec.halves lies as the program's text lays it (tied to that text by the card).
-/
import Derived.Test.YtekcbkaanlngdabDoorCards
import Derived.Test.YtekcbkaanlngdabDoorTie
import Derived.Test.YtekcbkaanlngdabDoorLiv
import Derived.Test.YtekcbkaanlngdabDoorTrn
import Derived.Test.YtekcbkaanlngdabDoorBlk
import Derived.Deep.Cut
import Derived.ProofKit
import Derived.OpenShut
import Derived.ShutString
import Derived.ChangeOld
import Derived.Below
import Derived.SizedLaws
import Derived.Deep.DeepHandedRow
import Derived.Lib.LaidTab
import Derived.SliceStrings
import Derived.JoinedCond
set_option linter.unusedVariables false
namespace Go.Proofs.YtekcbkaanlngdabDoor.recTorn
open Go.ChangeShapes Go.WideShapes Go.ChangeAt Go.RowKit Go.Proofs.Num Go.Proofs.Crc Go.Proofs.Frm
open Go.ChangeMaps (open_string shut_string)

theorem joined_len (l : List ByteArray) (h : ∀ s ∈ l, s.size ≤ 1048576) : (joinedL (lists l)).length ≤ 15 * bulkS l := by
  induction l with
  | nil => simp [joinedL, lists]
  | cons s r ih =>
    have h1 := ih (fun x hx => h x (by simp [hx]))
    have h2 := frameL_length s.data.toList
    have h3 := h s (by simp)
    have h4 := putL_len10 (n := s.size) (by omega)
    rw [sizeL] at h2
    rw [show lists (s :: r) = s.data.toList :: lists r from rfl, joinedL_cons, List.length_append, h2]
    simp only [bulkS]
    omega

theorem rowS_take {w : World} {a : Option Addr} {len cap : Nat} {l : List ByteArray} (h : RowS w (.slice a len cap) l) (k cap' : Nat) (hk : k ≤ l.length) : RowS w (.slice a k cap') (l.take k) := by
  obtain ⟨a', c', he, h1, h2, h3⟩ := h
  have hl : (l.take k).length = k := by simp; omega
  injection he with ha hlen hcap
  subst ha
  refine ⟨a, cap', by rw [hl], by omega, fun s hs => h2 s (List.mem_of_mem_take hs), ?_⟩
  rcases h3 with rfl | ⟨b, off, rfl, hb, hc⟩
  · left; simp
  · right
    exact ⟨b, off, rfl, hb, fun j hj => by rw [hc j (by omega), List.getElem_take]⟩

/-- How many bytes the first records' frames are. -/
def sizeTo (l : List ByteArray) (j : Nat) : Nat := (joinedL ((lists l).take j)).length

theorem sizeTo_succ {l : List ByteArray} {j : Nat} (h : j < l.length) : sizeTo l (j + 1) = sizeTo l j + (frameL l[j].data.toList).length := by
  unfold sizeTo joinedL
  rw [List.take_succ_eq_append_getElem (by simpa [lists] using h), List.map_append, List.flatten_append, List.length_append]
  simp [lists]
theorem sizeTo_mono {l : List ByteArray} {i : Nat} : ∀ d, i + d ≤ l.length → sizeTo l i ≤ sizeTo l (i + d) := by
  intro d
  induction d with
  | zero => intro _; exact Nat.le_refl _
  | succ d ih =>
    intro h
    have := sizeTo_succ (l := l) (j := i + d) (by omega)
    have := ih (by omega)
    rw [show i + (d + 1) = i + d + 1 by omega]
    omega

set_option maxHeartbeats 2000000 in
set_option maxRecDepth 100000 in
theorem walk_main (a : Option Addr) (cap : Nat) (l : List ByteArray) (c : Nat) (w : World) (ht : Tab w) (hv : RowS w (.slice a l.length cap) l) (hl : bulkS l ≤ 1048576) (hs : ∀ s ∈ l, s.size ≤ 1048576) (hcap : l.length ≤ cap) (hc : c ≤ (joinedL (lists l)).length) :
    Calls Tryd.prog 6 #[.slice a l.length cap, .int .i64 c] w fun e w' => e = .returned (.bool true) ∧ Below w.heap.size w w' := by
  have hll := bulk_len l
  have HV := hide hv
  have HT := hide ht
  clear hv ht
  have hall : ∀ s ∈ lists l, s.length ≤ 1048576 := by
    intro s h
    obtain ⟨x, hx, rfl⟩ := List.mem_map.1 h
    rw [sizeL]
    exact hs x hx
  have HS := hide hs
  have hN := joined_len l hs
  have hj : joinR (lists l) = (joinedL (lists l), 0) := joinR_all hall
  have HJ := hide (fun w ht h => join_any (.slice a l.length cap) l w ht (by omega) h)
  rw [hj] at HJ
  obtain ⟨k, k1, k2, k3, k4⟩ := allR_torn (lists l) c hall hc
  have hlen : (lists l).length = l.length := by simp [lists]
  rw [hlen] at k1 k4
  have k3 : sizeTo l k ≤ c := k3
  have k4 : k < l.length → c < sizeTo l (k + 1) := k4
  have k2 : allR ((joinedL (lists l)).take c) = ((lists l).take k, sizeTo l k) := k2
  have hex : ((bts (joinedL (lists l))).extract 0 c).data.toList = (joinedL (lists l)).take c := by rw [toList_upto, toList_bts]
  have hexs : ((bts (joinedL (lists l))).extract 0 c).size ≤ 1099511627776 := by rw [ByteArray.size_extract, size_bts]; omega
  have HB := hide (fun w ht => all_any ((bts (joinedL (lists l))).extract 0 c) w ht hexs)
  rw [hex, k2] at HB
  have hsz := size_bts (joinedL (lists l))
  have E2 := hide (show ∀ l' : List ByteArray, lists l' = (lists l).take k → l' = l.take k from fun l' h => lists_inj (by rw [h]; simp [lists, List.map_take]))
  have K3 := hide k3
  have K4 := hide k4
  have ks : ∀ w : World, (Instr.slice 9 (.string (bts (joinedL (lists l)))) none (some (.int .i64 (c : Int))) none).run Tryd.prog w = .ok (.string ((bts (joinedL (lists l))).extract 0 c)) w := by
    intro w
    have h := run_slice_string_h (P := Tryd.prog) w 9 (bts (joinedL (lists l))) Tryd.underlying9 .i64 (c : Int) (by omega) (by omega)
    rwa [Int.toNat_natCast] at h
  clear hs hall hj k2 k3 k4 hex hexs hlen
  generalize bts (joinedL (lists l)) = F at *
  generalize hNN : (joinedL (lists l)).length = N at *
  clear hNN
  generalize F.extract 0 c = G at *
  go_enter Tryd.func6, Tryd.ntmps6
  go_wp2_with fail
  refine (lives_any _ (unhide HT)).mono ?_
  rintro e w1 ⟨rfl, b1⟩
  go_wp2_with fail
  refine (unhide HJ _ ((unhide HT).below b1) ((unhide HV).below b1)).mono ?_
  rintro e w2 ⟨rfl, b2⟩
  have b2' := belows b1 b2
  have H2 := hide ((unhide HT).below b2')
  clear b1 b2
  go_wp2_with fail
  refine (unhide HB _ (unhide H2)).mono ?_
  rintro e w3 ⟨u, l', rfl, hu, hl', b3⟩
  rw [unhide E2 _ hl'] at hu
  have HU := hide hu
  have b3' := belows b2' b3
  have H3 := hide ((unhide HT).below b3')
  have HV3 := hide ((unhide HV).below b3')
  clear hu hl' b2' b3 H2
  go_wp2_with fail
  go_loopw [9, 10, 11, 12] (fun x z y1 y2 wr => ∃ j : Nat, z = .int .i64 j ∧ x = .int .i64 (sizeTo l j) ∧ j ≤ k ∧ Below w3.heap.size w3 wr) (fun _ z _ _ _ => l.length - (intOf z).toNat)
  case atStart => exact ⟨0, rfl, rfl, Nat.zero_le _, Below.refl _ _⟩
  case round =>
    obtain ⟨j, rfl, rfl, hjk, hbw⟩ := hrel
    have hbs := hbw.size
    have HTW := hide ((unhide H3).below hbw)
    have HVW := hide ((unhide HV3).below hbw)
    have HUW := hide ((unhide HU).below hbw)
    have hSj : sizeTo l j ≤ c := by
      have := sizeTo_mono (l := l) (i := j) (k - j) (by omega)
      rw [show j + (k - j) = k by omega] at this
      exact Nat.le_trans this (unhide K3)
    by_cases hlt : j < l.length
    · obtain ⟨a', cap', he, _, _, hcs⟩ := unhide HVW
      injection he with ha _ hcc
      subst ha
      subst hcc
      rcases hcs with hnil | ⟨b, off, rfl, hb, hcell⟩
      · rw [hnil] at hlt; simp at hlt
      · have hcx := hcell j hlt
        have hsj := unhide HS _ (List.getElem_mem hlt)
        have hfr : frameR l[j].data.toList = (frameL l[j].data.toList, 0) := by unfold frameR; rw [sizeL, if_neg (by omega)]
        have hss := sizeTo_succ hlt
        have hfl := frame_le l[j].data.toList (by rw [sizeL]; exact hsj)
        have hbz := size_bts (frameL l[j].data.toList)
        have HFR := hide (fun w ht => frame_any l[j] w ht (by omega))
        rw [hfr] at HFR
        clear hcell hfr
        generalize bts (frameL l[j].data.toList) = f at HFR hbz
        generalize (frameL l[j].data.toList).length = q at hss hfl hbz
        generalize l[j] = s at hcx HFR hsj
        have HSS := hide hss
        clear hss
        by_cases hk : j < k
        · have hgo : sizeTo l j + q ≤ c := by
            have := sizeTo_mono (l := l) (i := j + 1) (k - (j + 1)) (by omega)
            rw [show j + 1 + (k - (j + 1)) = k by omega, unhide HSS] at this
            exact Nat.le_trans this (unhide K3)
          have hgoI : (q : Int) ≤ (c : Int) - (sizeTo l j : Int) := by omega
          go_wp2_with fail
          refine (unhide HFR _ (unhide HTW)).mono ?_
          rintro e w4 ⟨rfl, b4⟩
          go_wp2
          exact ⟨⟨j + 1, by go_num, by rw [unhide HSS]; go_num, by omega, belows hbw b4⟩, by simp [intOf]; omega⟩
        · have hjk' : j = k := by omega
          subst hjk'
          have hno := unhide K4 hlt
          rw [unhide HSS] at hno
          have hnoI : (c : Int) - (sizeTo l j : Int) < (q : Int) := by omega
          go_wp2_with fail
          refine (unhide HFR _ (unhide HTW)).mono ?_
          rintro e w4 ⟨rfl, b4⟩
          go_wp2_with fail
          refine (sameS_any u _ (l.take j) (l.take j) _ ((unhide HUW).below b4) (rowS_take ((unhide HVW).below b4) j _ (by omega))).mono ?_
          rintro e w5 ⟨rfl, b5⟩
          rw [show decide (l.take j = l.take j) = true by simp]
          go_wp2_with fail
          go_ret
          exact ⟨rfl, belows (belows (belows b3' hbw) b4) b5⟩
    · have hjk' : j = k := by omega
      subst hjk'
      have hjl : j = l.length := by omega
      have htl : l.take j = l := by rw [hjl]; simp
      rw [htl] at HUW
      clear htl
      go_wp2_with fail
      refine (sameS_any u _ l l _ (unhide HUW) (unhide HVW)).mono ?_
      rintro e w5 ⟨rfl, b5⟩
      rw [show decide (l = l) = true by simp]
      go_wp2_with fail
      go_ret
      exact ⟨rfl, belows (belows b3' hbw) b5⟩

set_option maxHeartbeats 1000000 in
set_option maxRecDepth 100000 in
theorem walk_out (a : Option Addr) (cap : Nat) (l : List ByteArray) (c : Int) (w : World) (ht : Tab w) (hv : RowS w (.slice a l.length cap) l) (hl : bulkS l ≤ 1048576) (hs : ∀ s ∈ l, s.size ≤ 1048576) (hc : c < 0 ∨ ((joinedL (lists l)).length : Int) < c) :
    Calls Tryd.prog 6 #[.slice a l.length cap, .int .i64 c] w fun e w' => e = .returned (.bool true) ∧ Below w.heap.size w w' := by
  have hll := bulk_len l
  have HV := hide hv
  have HT := hide ht
  clear hv ht
  have hall : ∀ s ∈ lists l, s.length ≤ 1048576 := by
    intro s h
    obtain ⟨x, hx, rfl⟩ := List.mem_map.1 h
    rw [sizeL]
    exact hs x hx
  have hN := joined_len l hs
  have hj : joinR (lists l) = (joinedL (lists l), 0) := joinR_all hall
  have HJ := hide (fun w ht h => join_any (.slice a l.length cap) l w ht (by omega) h)
  rw [hj] at HJ
  have hsz := size_bts (joinedL (lists l))
  clear hs hall hj
  generalize bts (joinedL (lists l)) = F at *
  generalize hNN : (joinedL (lists l)).length = N at *
  clear hNN
  by_cases h0 : c < 0
  · clear hc
    go_enter Tryd.func6, Tryd.ntmps6
    go_wp2_with fail
    refine (lives_any _ (unhide HT)).mono ?_
    rintro e w1 ⟨rfl, b1⟩
    go_wp2_with fail
    refine (unhide HJ _ ((unhide HT).below b1) ((unhide HV).below b1)).mono ?_
    rintro e w2 ⟨rfl, b2⟩
    go_wp2_with fail
    go_ret
    exact ⟨rfl, belows b1 b2⟩
  · have h1 : (N : Int) < c := by omega
    clear hc
    go_enter Tryd.func6, Tryd.ntmps6
    go_wp2_with fail
    refine (lives_any _ (unhide HT)).mono ?_
    rintro e w1 ⟨rfl, b1⟩
    go_wp2_with fail
    refine (unhide HJ _ ((unhide HT).below b1) ((unhide HV).below b1)).mono ?_
    rintro e w2 ⟨rfl, b2⟩
    go_wp2_with fail
    go_ret
    exact ⟨rfl, belows b1 b2⟩

theorem walk (a0 : Option Addr) (len0 cap0 : Nat) (z0 : List ByteArray) (a1 : Int) (w : World) (ht : Tab w) (w0 : IsRowS w a0 len0 cap0 z0) (w1 : (Lit.int .i64 a1).wf = true) (hsum : bulkS (z0.take len0) ≤ 1048576) :
    Calls Tryd.prog 6 #[.slice a0 len0 cap0, .int .i64 a1] w fun e w' => e = .returned (.bool true) ∧ Below w.heap.size w w' := by
  have hv := rowS_of_isRowS w0
  have hlen : (z0.take len0).length = len0 ∧ len0 ≤ cap0 := by
    rcases w0 with ⟨rfl, rfl, rfl, rfl⟩ | ⟨x, rfl, hl, hm, hz, hc, hw⟩
    · simp
    · refine ⟨?_, hl⟩
      simp
      omega
  have hs : ∀ s ∈ z0.take len0, s.size ≤ 1048576 := fun s h => by have := bulk_mem h; omega
  generalize z0.take len0 = l at *
  obtain ⟨rfl, hcap⟩ := hlen
  by_cases hc : a1 < 0 ∨ ((joinedL (lists l)).length : Int) < a1
  · exact walk_out a0 cap0 l a1 w ht hv hsum hs hc
  · obtain ⟨c, rfl⟩ := Int.eq_ofNat_of_zero_le (show 0 ≤ a1 by omega)
    exact walk_main a0 cap0 l c w ht hv hsum hs hcap (by omega)

theorem own : ownKnob Tryd.prog.godebug = none := by kernel_rfl
theorem laidOut : laidOutB Tryd.prog = true := by kernel_rfl
theorem gTab : Tryd.prog.globalNamed "missive/rec.halves" = some 0 := by kernel_rfl
theorem gTabType : (Tryd.prog.globals[0]?).map (·.type) = some 65 := by kernel_rfl
theorem cellsArr : Tryd.prog.cellsOf 65 = 16 := by kernel_rfl
theorem cellsElem : Tryd.prog.cellsOf 28 = 1 := by kernel_rfl
theorem halves_tab : ∀ j : Fin 16, ([0, 498536548, 997073096, 651767980, 1994146192, 1802195444, 1303535960, 1342533948, 3988292384, 4027552580, 3604390888, 3412177804, 2607071920, 2262029012, 2685067896, 3183342108] : List Int).getD j.val 0 = (Go.Proofs.Crc.tab j.val : Int) := by decide +kernel

theorem table {W : World} (h : laidMetH Tryd.prog Rows.recTornUptoRow.laid W) : Tab W := by
  have t : Lib.TabIs Tryd.prog W "missive/rec.halves" .u32 [0, 498536548, 997073096, 651767980, 1994146192, 1802195444, 1303535960, 1342533948, 3988292384, 4027552580, 3604390888, 3412177804, 2607071920, 2262029012, 2685067896, 3183342108] :=
    Lib.tabIs_of_head (rest := []) gTab gTabType Tryd.underlying65 Tryd.underlying28 cellsElem cellsArr h
  have c : ∀ j, j < 16 → W.cell? ⟨0, j, none⟩ = some (.int .u32 (Go.Proofs.Crc.tab j : Int)) := by
    intro j hj
    rw [t.cell gTab j (by simpa using hj), halves_tab ⟨j, hj⟩]
  refine ⟨?_, c⟩
  rcases Nat.lt_or_ge 0 W.heap.size with h' | h'
  · exact h'
  · have := c 0 (by omega)
    simp [World.cell?, Array.getElem?_eq_none h'] at this

set_option maxRecDepth 100000 in
theorem contract (H : Type) (enc : TypeId × Value → H) (W : World) (base : Nat) (args : Array Value) (ds gs : List (DataW H)) (before : List MemPlace)
    (hval : ∀ (j : Nat) t v, Tryd.f6.params[j]? = some t → args[j]? = some v → Value.okWide Tryd.prog W .any base t v)
    (hW : DataW.Whole enc Tryd.prog Tryd.f6.params.toList Rows.recTornSpec.vars false W args.toList ds gs before)
    (hsz : (DataW.weightsEach Tryd.prog (Tryd.f6.params.toList ++ Rows.recTornSpec.plain.varTypes Tryd.prog) (ds ++ gs)).all (· ≤ reachBytes) = true) (hk : Rows.uptoSmall H (ds ++ gs) = true) (hL : laidMetH Tryd.prog Rows.recTornUptoRow.laid W) :
    Calls Tryd.prog 6 args W fun e W' => ∃ v, e = .returned v ∧ Rows.recTornSpec.post enc Tryd.prog Tryd.f6 false true false false W args v W' := by
  have hW' := hW
  obtain ⟨p, q, hA0, hV, rfl, hfz, hnd⟩ := hW
  have hA : DataW.TrodAll enc Tryd.prog W 0 (fun _ => true) true Tryd.f6.params.toList args.toList ds p := hA0
  rw [Tryd.params6] at hA hval hsz
  obtain ⟨v0, vs0, d0, ds0, p0, q0, hargs, rfl, rfl, h0, r0⟩ := trodAll_cons hA
  obtain ⟨v1, vs1, d1, ds1, p1, q1, rfl, rfl, rfl, h1, r1⟩ := trodAll_cons r0
  obtain ⟨rfl, rfl, rfl⟩ := trodAll_nil r1
  obtain rfl : args = #[v0, v1] := by cases args; simp_all
  obtain ⟨rfl, rfl⟩ := trodVars_none hV
  obtain ⟨a0, len0, cap0, rfl⟩ := okWide_slice Tryd.underlying31 (hval 0 31 v0 rfl rfl)
  have k0 := h0
  have lt0 : ∀ x ∈ p0, x.block < W.heap.size := by obtain ⟨m, hm⟩ := k0; exact DataW.trod_lt m _ _ _ hm
  obtain ⟨z0, w0, y0⟩ : ∃ zs, IsRowS W a0 len0 cap0 zs ∧ bulkS (zs.take len0) ≤ Rows.uptoBulk d0 := by
    obtain ⟨fuel, hf⟩ := h0
    rcases open_strings Tryd.underlying31 Tryd.underlying9 (by kernel_rfl) hf with ⟨hcs, _⟩ | ⟨x, l, c, zs, hcs, _, hl, hm, hz, hx, hcell, hwz⟩
    · simp [Value.cells] at hcs
      obtain ⟨rfl, rfl, rfl⟩ := hcs
      exact ⟨[], .inl ⟨rfl, rfl, rfl, rfl⟩, by simp [bulkS]⟩
    · simp [Value.cells] at hcs
      obtain ⟨rfl, rfl, rfl⟩ := hcs
      simp only [Prod.mk.injEq] at hx
      obtain ⟨rfl, _⟩ := hx
      exact ⟨zs, .inr ⟨_, rfl, hl, hm, by simpa using hz, hcell, hwz⟩, bulk_strs _ _⟩
  obtain ⟨a1, rfl, rfl, rfl, w1⟩ := open_int Tryd.underlying3 (hval 1 3 v1 rfl rfl) h1
  have hroom := bound hk
  simp only [List.append_nil, Rows.uptoBulkAll] at hroom
  have hsum : bulkS (z0.take len0) ≤ 1048576 := by omega
  clear hA0
  refine (walk a0 len0 cap0 z0 a1 W (table hL) w0 w1 hsum).mono fun e W' ⟨he, bel⟩ => ?_
  subst he
  exact ⟨_, rfl, _, _, _, [], _, [], hW', trodAll_mk1 (shut_bool Tryd.underlying4 _), (trodAll_cons_mk (Below.trod laidOut (by kernel_rfl) (of_decide_eq_true (by kernel_rfl)) k0 bel lt0) (trodAll_cons_mk (shut_int Tryd.underlying3 w1) trodAll_mk0)), rfl, bel.frame _, fun h => by cases h⟩

noncomputable def laidWorld (os : Os) : World :=
  { World.holding Tryd.prog os ⟨#[], #[], []⟩ with heap := (World.holding Tryd.prog os ⟨#[], #[], []⟩).heap.modify 0 fun
      | .cells _ t frozen => .cells #[.int .u32 0, .int .u32 498536548, .int .u32 997073096, .int .u32 651767980, .int .u32 1994146192, .int .u32 1802195444, .int .u32 1303535960, .int .u32 1342533948, .int .u32 3988292384, .int .u32 4027552580, .int .u32 3604390888, .int .u32 3412177804, .int .u32 2607071920, .int .u32 2262029012, .int .u32 2685067896, .int .u32 3183342108] t frozen
      | o => o }
theorem laid_met (os : Os) : laidMet Tryd.prog Rows.recTornUptoRow.laid ((laidWorld os).forCall (fun _ _ => 0) ⟨#[], #[.slice none 0 0, .int .i64 0], []⟩).memory :=
  laidMet_of_run' 8 (by kernel_rfl) (by kernel_rfl)
theorem reads (os : Os) {H : Type} (enc : TypeId × Value → H) : ∃ places, DataW.whole enc Tryd.prog ((laidWorld os).forCall (fun _ _ => 0) ⟨#[], #[.slice none 0 0, .int .i64 0], []⟩).memory Tryd.f6.params.toList Rows.recTornSpec.vars false (#[.slice none 0 0, .int .i64 0] : Array Value).toList 8 = some ([.nil, .lit (.int .i64 0)], [], places) :=
  ⟨[], by kernel_rfl⟩

set_option maxRecDepth 100000 in
theorem lifted (os : Os) (started : os.Started) (H : Type) (enc : TypeId × Value → H) (F : Stop.Interp) :
    ReturnsInHanded {} Tryd.checked os 6 .any ((Rows.OpenSpec.upto Rows.recTornSpec).preRow enc Tryd.prog Tryd.f6 Rows.recTornUptoRow.domain false Rows.recTornUptoRow.laid) (((Rows.OpenSpec.upto Rows.recTornSpec).at F).post enc Tryd.prog Tryd.f6 false true false false) := by
  obtain ⟨places, hx⟩ := reads os enc
  refine returnsInHanded_of_row (C := Tryd.checked) (s := Rows.OpenSpec.upto Rows.recTornSpec) own started (by kernel_rfl) Tryd.func6
    (witness_row_at (enc := enc) (C := Tryd.checked) false (laidWorld os) #[.slice none 0 0, .int .i64 0] rfl (by kernel_rfl) (by kernel_rfl) (by kernel_rfl)
      (OpenSpec.preRow_of_cond 8 hx (by kernel_rfl) (fun k hk => by cases hk; kernel_rfl) (by kernel_rfl) (laid_met os))) ?_
  intro W base args ds gs before hval hW _ hcond hsz hL _ _
  exact contract H enc W base args ds gs before hval hW hsz (hcond _ rfl) hL

theorem said : Rows.RecTornUptoSaid :=
  OpenClaim.holds_of_cond 6 Tryd.f6 rfl rfl rfl rfl rfl rfl rfl ⟨rfl, rfl, rfl, rfl, rfl⟩ rfl rfl rfl rfl rfl (by kernel_rfl) Tryd.func6 (by kernel_rfl)
    (of_decide_eq_true (by kernel_rfl)) (by unfold Func.isWrapper; first | (rw [if_pos (by decide +kernel)]; kernel_rfl) | (rw [if_neg (by decide +kernel)]; exact ⟨rfl, rfl⟩))
    (fun os started H enc _ F => by rw [OpenClaim.pre_eq_preRow]; exact lifted os started H enc F)

theorem plain (f : FuncId) (fn : Func) (hf : Tryd.pinned.checked.prog.funcNamed "missive/missivelaw02.RecTorn" = some f) (hfn : Tryd.pinned.checked.prog.funcs[f]? = some fn) :
    false = Tryd.pinned.checked.prog.looks [] ∧ ∀ (j : Nat) t, fn.params[j]? = some t → Tryd.pinned.checked.prog.wantsStandIn t = false := by
  obtain rfl : f = 6 := Option.some.inj ((show Tryd.prog.funcNamed "missive/missivelaw02.RecTorn" = some 6 by kernel_rfl).symm.trans hf) |>.symm
  obtain rfl : fn = Tryd.f6 := (Option.some.inj (Tryd.func6.symm.trans hfn)).symm
  refine ⟨by kernel_rfl, fun j t ht => ?_⟩
  rw [Tryd.params6] at ht
  have hm := Array.mem_of_getElem? ht
  simp at hm
  rcases hm with rfl | rfl
  · exact (show Tryd.prog.wantsStandIn 31 = false by kernel_rfl)
  · exact (show Tryd.prog.wantsStandIn 3 = false by kernel_rfl)

theorem card : Rows.RecTornUptoCardSaid :=
  Claim7.holds_tied_plain_at .later [] _ _ _ _ said (fun _ h => by cases h) (by kernel_rfl) (fun _ h => by cases h) recTornUpto_row_tie rfl ⟨rfl, rfl⟩ (by kernel_rfl) rfl plain (by kernel_rfl)

end Go.Proofs.YtekcbkaanlngdabDoor.recTorn
namespace Go.Proofs.YtekcbkaanlngdabDoor
/-- The statement. -/
theorem recTorn_upto : Rows.RecTornUptoCardSaid := recTorn.card
#print axioms recTorn_upto
end Go.Proofs.YtekcbkaanlngdabDoor
