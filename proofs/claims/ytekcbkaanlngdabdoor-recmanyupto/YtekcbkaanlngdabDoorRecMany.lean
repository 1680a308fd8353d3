/-
  Proved: missivelaw02.RecMany answers true for every list of strings and every string, and leaves its arguments as they were, where what it reads is of bulk at most 1048576 (the second form), and where the table rec.halves lies as the program's text lays it (tied to that text by the card).
-/
import Derived.Test.YtekcbkaanlngdabDoorCards
import Derived.Test.YtekcbkaanlngdabDoorTie
import Derived.Test.YtekcbkaanlngdabDoorLiv
import Derived.Test.YtekcbkaanlngdabDoorRjn
import Derived.ProofKit
import Derived.OpenShut
import Derived.ShutString
import Derived.ChangeOld
import Derived.Below
import Derived.SizedLaws
import Derived.Deep.DeepHandedRow
import Derived.Lib.LaidTab
import Derived.SliceStrings
import Derived.JoinedCond
set_option linter.unusedVariables false
namespace Go.Proofs.YtekcbkaanlngdabDoor.recMany
open Go.ChangeShapes Go.WideShapes Go.ChangeAt Go.RowKit Go.Proofs.Num Go.Proofs.Crc Go.Proofs.Frm
open Go.ChangeMaps (open_string shut_string)

set_option maxHeartbeats 1000000 in
set_option maxRecDepth 100000 in
theorem walk_main (v : Value) (l : List ByteArray) (s : ByteArray) (w : World) (ht : Tab w) (hv : RowS w v l) (hl : l.length ≤ 1048576) (hs : ∀ x ∈ l, x.size ≤ 1048576) (hz : s.size ≤ 1048576) :
    Calls Tryd.prog 4 #[v, .string s] w fun e w' => e = .returned (.bool true) ∧ Below w.heap.size w w' := by
  have HV := hide hv
  have HT := hide ht
  clear hv ht
  have hall : ∀ x ∈ lists l, x.length ≤ 1048576 := by
    intro x h
    obtain ⟨y, hy, rfl⟩ := List.mem_map.1 h
    rw [sizeL]
    exact hs y hy
  have hj : joinR (lists l) = (joinedL (lists l), 0) := joinR_all hall
  have HJ := hide (fun w ht h => join_any v l w ht (by omega) h)
  rw [hj] at HJ
  have HK := hide (fun w h => refJoin_any v l w hl hs h)
  have HA := hide (fun w ht => all_any s w ht (by omega))
  have HB := hide (fun w => refAll_any s w (by omega))
  have E1 := hide (show ∀ a b : List ByteArray, lists a = (allR s.data.toList).1 → lists b = (allR s.data.toList).1 → a = b from fun a b h1 h2 => lists_inj (h1.trans h2.symm))
  clear hall hj hs hl hz
  generalize bts (joinedL (lists l)) = F at HJ HK
  generalize (allR s.data.toList).1 = L at HA HB E1
  generalize (allR s.data.toList).2 = n at HA HB
  go_enter Tryd.func4, Tryd.ntmps4
  go_wp2_with fail
  refine (unhide HJ _ (unhide HT) (unhide HV)).mono ?_
  rintro e w1 ⟨rfl, b1⟩
  go_wp2_with fail
  refine (unhide HK _ ((unhide HV).below b1)).mono ?_
  rintro e w2 ⟨rfl, b2⟩
  have b2' := belows b1 b2
  have H2 := hide ((unhide HT).below b2')
  clear b1 b2
  go_wp2_with fail
  refine (unhide HA _ (unhide H2)).mono ?_
  rintro e w3 ⟨x, p, rfl, hx, hp, b3⟩
  have HX := hide hx
  have HP := hide hp
  clear hx hp
  go_wp2_with fail
  refine (unhide HB _).mono ?_
  rintro e w4 ⟨y, q, rfl, hy, hq, b4⟩
  obtain rfl := unhide E1 _ _ (unhide HP) hq
  have HX4 := hide ((unhide HX).below b4)
  have HY := hide hy
  have b4' := belows (belows b2' b3) b4
  have H4 := hide ((unhide HT).below b4')
  clear hy hq HP HX b2' b3 b4 H2
  go_wp2_with fail
  refine (lives_any _ (unhide H4)).mono ?_
  rintro e w5 ⟨rfl, b5⟩
  go_wp2_with fail
  refine (sameS_any x y p p _ ((unhide HX4).below b5) ((unhide HY).below b5)).mono ?_
  rintro e w6 ⟨rfl, b6⟩
  rw [show decide (p = p) = true by simp]
  go_wp2_with fail
  go_ret
  exact ⟨rfl, belows (belows b4' b5) b6⟩

theorem walk (a0 : Option Addr) (len0 cap0 : Nat) (z0 : List ByteArray) (a1 : ByteArray) (w : World) (ht : Tab w) (w0 : IsRowS w a0 len0 cap0 z0) (g1 : a1.size ≤ 140737488351232) (hsum : bulkS (z0.take len0) + a1.size ≤ 1048576) :
    Calls Tryd.prog 4 #[.slice a0 len0 cap0, .string a1] w fun e w' => e = .returned (.bool true) ∧ Below w.heap.size w w' := by
  have hv := rowS_of_isRowS w0
  have hs : ∀ s ∈ z0.take len0, s.size ≤ 1048576 := fun s h => by have := bulk_mem h; omega
  have hl := bulk_len (z0.take len0)
  exact walk_main _ (z0.take len0) a1 w ht hv (by omega) hs (by omega)

theorem own : ownKnob Tryd.prog.godebug = none := by kernel_rfl
theorem laidOut : laidOutB Tryd.prog = true := by kernel_rfl
theorem gTab : Tryd.prog.globalNamed "missive/rec.halves" = some 0 := by kernel_rfl
theorem gTabType : (Tryd.prog.globals[0]?).map (·.type) = some 65 := by kernel_rfl
theorem cellsArr : Tryd.prog.cellsOf 65 = 16 := by kernel_rfl
theorem cellsElem : Tryd.prog.cellsOf 28 = 1 := by kernel_rfl
theorem halves_tab : ∀ j : Fin 16, ([0, 498536548, 997073096, 651767980, 1994146192, 1802195444, 1303535960, 1342533948, 3988292384, 4027552580, 3604390888, 3412177804, 2607071920, 2262029012, 2685067896, 3183342108] : List Int).getD j.val 0 = (Go.Proofs.Crc.tab j.val : Int) := by decide +kernel

theorem table {W : World} (h : laidMetH Tryd.prog Rows.recManyUptoRow.laid W) : Tab W := by
  have t : Lib.TabIs Tryd.prog W "missive/rec.halves" .u32 [0, 498536548, 997073096, 651767980, 1994146192, 1802195444, 1303535960, 1342533948, 3988292384, 4027552580, 3604390888, 3412177804, 2607071920, 2262029012, 2685067896, 3183342108] :=
    Lib.tabIs_of_head (rest := []) gTab gTabType Tryd.underlying65 Tryd.underlying28 cellsElem cellsArr h
  have c : ∀ j, j < 16 → W.cell? ⟨0, j, none⟩ = some (.int .u32 (Go.Proofs.Crc.tab j : Int)) := by
    intro j hj
    rw [t.cell gTab j (by simpa using hj), halves_tab ⟨j, hj⟩]
  refine ⟨?_, c⟩
  rcases Nat.lt_or_ge 0 W.heap.size with h' | h'
  · exact h'
  · have := c 0 (by omega)
    simp [World.cell?, Array.getElem?_eq_none h'] at this

set_option maxRecDepth 100000 in
theorem contract (H : Type) (enc : TypeId × Value → H) (W : World) (base : Nat) (args : Array Value) (ds gs : List (DataW H)) (before : List MemPlace)
    (hval : ∀ (j : Nat) t v, Tryd.f4.params[j]? = some t → args[j]? = some v → Value.okWide Tryd.prog W .any base t v)
    (hW : DataW.Whole enc Tryd.prog Tryd.f4.params.toList Rows.recManySpec.vars false W args.toList ds gs before)
    (hsz : (DataW.weightsEach Tryd.prog (Tryd.f4.params.toList ++ Rows.recManySpec.plain.varTypes Tryd.prog) (ds ++ gs)).all (· ≤ reachBytes) = true) (hk : Rows.uptoSmall H (ds ++ gs) = true) (hL : laidMetH Tryd.prog Rows.recManyUptoRow.laid W) :
    Calls Tryd.prog 4 args W fun e W' => ∃ v, e = .returned v ∧ Rows.recManySpec.post enc Tryd.prog Tryd.f4 false true false false W args v W' := by
  have hW' := hW
  obtain ⟨p, q, hA0, hV, rfl, hfz, hnd⟩ := hW
  have hA : DataW.TrodAll enc Tryd.prog W 0 (fun _ => true) true Tryd.f4.params.toList args.toList ds p := hA0
  rw [Tryd.params4] at hA hval hsz
  obtain ⟨v0, vs0, d0, ds0, p0, q0, hargs, rfl, rfl, h0, r0⟩ := trodAll_cons hA
  obtain ⟨v1, vs1, d1, ds1, p1, q1, rfl, rfl, rfl, h1, r1⟩ := trodAll_cons r0
  obtain ⟨rfl, rfl, rfl⟩ := trodAll_nil r1
  obtain rfl : args = #[v0, v1] := by cases args; simp_all
  obtain ⟨rfl, rfl⟩ := trodVars_none hV
  obtain ⟨a0, len0, cap0, rfl⟩ := okWide_slice Tryd.underlying31 (hval 0 31 v0 rfl rfl)
  have k0 := h0
  have lt0 : ∀ x ∈ p0, x.block < W.heap.size := by obtain ⟨m, hm⟩ := k0; exact DataW.trod_lt m _ _ _ hm
  obtain ⟨z0, w0, y0⟩ : ∃ zs, IsRowS W a0 len0 cap0 zs ∧ bulkS (zs.take len0) ≤ Rows.uptoBulk d0 := by
    obtain ⟨fuel, hf⟩ := h0
    rcases open_strings Tryd.underlying31 Tryd.underlying9 (by kernel_rfl) hf with ⟨hcs, _⟩ | ⟨x, l, c, zs, hcs, _, hl, hm, hz, hx, hcell, hwz⟩
    · simp [Value.cells] at hcs
      obtain ⟨rfl, rfl, rfl⟩ := hcs
      exact ⟨[], .inl ⟨rfl, rfl, rfl, rfl⟩, by simp [bulkS]⟩
    · simp [Value.cells] at hcs
      obtain ⟨rfl, rfl, rfl⟩ := hcs
      simp only [Prod.mk.injEq] at hx
      obtain ⟨rfl, _⟩ := hx
      exact ⟨zs, .inr ⟨_, rfl, hl, hm, by simpa using hz, hcell, hwz⟩, bulk_strs _ _⟩
  obtain ⟨a1, rfl, rfl, rfl, w1⟩ := open_string Tryd.underlying9 (hval 1 9 v1 rfl rfl) h1
  have g1 : a1.size ≤ 140737488351232 := by
    have := sized_string hsz (j := 1) (t := 9) rfl rfl
    simpa [reachBytes] using this
  have hroom := bound hk
  simp only [List.append_nil, Rows.uptoBulkAll] at hroom
  have y1 : a1.size + 1 ≤ Rows.uptoBulk (DataW.lit (H := H) (.string a1.data.toList)) := by rw [string_eq, sizeL]; omega
  have hsum : bulkS (z0.take len0) + a1.size ≤ 1048576 := by omega
  clear hA0
  refine (walk a0 len0 cap0 z0 a1 W (table hL) w0 g1 hsum).mono fun e W' ⟨he, bel⟩ => ?_
  subst he
  exact ⟨_, rfl, _, _, _, [], _, [], hW', trodAll_mk1 (shut_bool Tryd.underlying4 _), (trodAll_cons_mk (Below.trod laidOut (by kernel_rfl) (of_decide_eq_true (by kernel_rfl)) k0 bel lt0) (trodAll_cons_mk (shut_string Tryd.underlying9 w1) trodAll_mk0)), rfl, bel.frame _, fun h => by cases h⟩

noncomputable def laidWorld (os : Os) : World :=
  { World.holding Tryd.prog os ⟨#[], #[], []⟩ with heap := (World.holding Tryd.prog os ⟨#[], #[], []⟩).heap.modify 0 fun
      | .cells _ t frozen => .cells #[.int .u32 0, .int .u32 498536548, .int .u32 997073096, .int .u32 651767980, .int .u32 1994146192, .int .u32 1802195444, .int .u32 1303535960, .int .u32 1342533948, .int .u32 3988292384, .int .u32 4027552580, .int .u32 3604390888, .int .u32 3412177804, .int .u32 2607071920, .int .u32 2262029012, .int .u32 2685067896, .int .u32 3183342108] t frozen
      | o => o }
theorem laid_met (os : Os) : laidMet Tryd.prog Rows.recManyUptoRow.laid ((laidWorld os).forCall (fun _ _ => 0) ⟨#[], #[.slice none 0 0, .string ByteArray.empty], []⟩).memory :=
  laidMet_of_run' 8 (by kernel_rfl) (by kernel_rfl)
theorem reads (os : Os) {H : Type} (enc : TypeId × Value → H) : ∃ places, DataW.whole enc Tryd.prog ((laidWorld os).forCall (fun _ _ => 0) ⟨#[], #[.slice none 0 0, .string ByteArray.empty], []⟩).memory Tryd.f4.params.toList Rows.recManySpec.vars false (#[.slice none 0 0, .string ByteArray.empty] : Array Value).toList 8 = some ([.nil, .lit (.string [])], [], places) :=
  ⟨[], by kernel_rfl⟩

set_option maxRecDepth 100000 in
theorem lifted (os : Os) (started : os.Started) (H : Type) (enc : TypeId × Value → H) (F : Stop.Interp) :
    ReturnsInHanded {} Tryd.checked os 4 .any ((Rows.OpenSpec.upto Rows.recManySpec).preRow enc Tryd.prog Tryd.f4 Rows.recManyUptoRow.domain false Rows.recManyUptoRow.laid) (((Rows.OpenSpec.upto Rows.recManySpec).at F).post enc Tryd.prog Tryd.f4 false true false false) := by
  obtain ⟨places, hx⟩ := reads os enc
  refine returnsInHanded_of_row (C := Tryd.checked) (s := Rows.OpenSpec.upto Rows.recManySpec) own started (by kernel_rfl) Tryd.func4
    (witness_row_at (enc := enc) (C := Tryd.checked) false (laidWorld os) #[.slice none 0 0, .string ByteArray.empty] rfl (by kernel_rfl) (by kernel_rfl) (by kernel_rfl)
      (OpenSpec.preRow_of_cond 8 hx (by kernel_rfl) (fun k hk => by cases hk; kernel_rfl) (by kernel_rfl) (laid_met os))) ?_
  intro W base args ds gs before hval hW _ hcond hsz hL _ _
  exact contract H enc W base args ds gs before hval hW hsz (hcond _ rfl) hL

theorem said : Rows.RecManyUptoSaid :=
  OpenClaim.holds_of_cond 4 Tryd.f4 rfl rfl rfl rfl rfl rfl rfl ⟨rfl, rfl, rfl, rfl, rfl⟩ rfl rfl rfl rfl rfl (by kernel_rfl) Tryd.func4 (by kernel_rfl)
    (of_decide_eq_true (by kernel_rfl)) (by unfold Func.isWrapper; first | (rw [if_pos (by decide +kernel)]; kernel_rfl) | (rw [if_neg (by decide +kernel)]; exact ⟨rfl, rfl⟩))
    (fun os started H enc _ F => by rw [OpenClaim.pre_eq_preRow]; exact lifted os started H enc F)

theorem plain (f : FuncId) (fn : Func) (hf : Tryd.pinned.checked.prog.funcNamed "missive/missivelaw02.RecMany" = some f) (hfn : Tryd.pinned.checked.prog.funcs[f]? = some fn) :
    false = Tryd.pinned.checked.prog.looks [] ∧ ∀ (j : Nat) t, fn.params[j]? = some t → Tryd.pinned.checked.prog.wantsStandIn t = false := by
  obtain rfl : f = 4 := Option.some.inj ((show Tryd.prog.funcNamed "missive/missivelaw02.RecMany" = some 4 by kernel_rfl).symm.trans hf) |>.symm
  obtain rfl : fn = Tryd.f4 := (Option.some.inj (Tryd.func4.symm.trans hfn)).symm
  refine ⟨by kernel_rfl, fun j t ht => ?_⟩
  rw [Tryd.params4] at ht
  have hm := Array.mem_of_getElem? ht
  simp at hm
  rcases hm with rfl | rfl
  · exact (show Tryd.prog.wantsStandIn 31 = false by kernel_rfl)
  · exact (show Tryd.prog.wantsStandIn 9 = false by kernel_rfl)

theorem card : Rows.RecManyUptoCardSaid :=
  Claim7.holds_tied_plain_at .later [] _ _ _ _ said (fun _ h => by cases h) (by kernel_rfl) (fun _ h => by cases h) recManyUpto_row_tie rfl ⟨rfl, rfl⟩ (by kernel_rfl) rfl plain (by kernel_rfl)

end Go.Proofs.YtekcbkaanlngdabDoor.recMany
namespace Go.Proofs.YtekcbkaanlngdabDoor
/-- The statement. -/
theorem recMany_upto : Rows.RecManyUptoCardSaid := recMany.card
#print axioms recMany_upto
end Go.Proofs.YtekcbkaanlngdabDoor
