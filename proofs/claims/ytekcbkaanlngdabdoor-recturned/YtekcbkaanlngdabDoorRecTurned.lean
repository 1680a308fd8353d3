/-
  Proved: missivelaw02.RecTurned answers true for every string, int and byte, and leaves its arguments as they were, where the table rec.halves lies as the program's text lays it (tied to that text by the card); no other condition.
-/
import Derived.Test.YtekcbkaanlngdabDoorCards
import Derived.Test.YtekcbkaanlngdabDoorTie
import Derived.Test.YtekcbkaanlngdabDoorLiv
import Derived.Deep.Cut
import Derived.ProofKit
import Derived.OpenShut
import Derived.ShutString
import Derived.ChangeOld
import Derived.Below
import Derived.SizedLaws
import Derived.Deep.DeepHandedRow
import Derived.Lib.LaidTab
import Derived.SliceStrings
import Derived.JoinedCond
set_option linter.unusedVariables false
namespace Go.Proofs.YtekcbkaanlngdabDoor.recTurned
open Go.ChangeShapes Go.WideShapes Go.ChangeAt Go.RowKit Go.Proofs.Num Go.Proofs.Crc Go.Proofs.Frm
open Go.ChangeMaps (open_string shut_string)

/-- The world has the bytes l in block b, from its first cell on, and none of them is frozen. -/
structure Bytes (w : World) (b : Nat) (l : List UInt8) : Prop where
  lt : b < w.heap.size
  cell : ∀ j (h : j < l.length), w.cell? ⟨b, j, none⟩ = some (.int .u8 (l[j].toNat : Int))
  free : ∀ j, j < l.length → w.frozen? ⟨b, j, none⟩ = false

theorem bytes_new (w : World) (l : List UInt8) (cap : Nat) : Bytes (w.alloc (.cells (bytesRow (bts l) cap) 5 ((bytesRow (bts l) cap).size, (bytesRow (bts l) cap).size + 1))).drew w.heap.size l := by
  have hsz : l.length ≤ (bytesRow (bts l) cap).size := by
    simp [bytesRow, bts]
  refine ⟨by simp, fun j hj => ?_, fun j hj => ?_⟩
  · have := World.cell?_alloc_mark w.drew (bytesRow (bts l) cap) 5 ((bytesRow (bts l) cap).size, (bytesRow (bts l) cap).size + 1) j
    refine Eq.trans this ?_
    simp [bytesRow, bts, Array.getElem?_append, hj]
  · have hh : (w.alloc (.cells (bytesRow (bts l) cap) 5 ((bytesRow (bts l) cap).size, (bytesRow (bts l) cap).size + 1))).drew.heap[w.heap.size]? = some (.cells (bytesRow (bts l) cap) 5 ((bytesRow (bts l) cap).size, (bytesRow (bts l) cap).size + 1)) := by
      show (w.heap.push _)[w.heap.size]? = _
      simp
    unfold World.frozen?
    simp only [hh]
    simp
    omega

theorem xor_ne (x : UInt8) (y : Int) (h0 : 0 < y) (h1 : y ≤ 255) : ∃ z : UInt8, bits .xor .u8 (x.toNat : Int) y = (z.toNat : Int) ∧ x ≠ z := by
  obtain ⟨n, rfl⟩ := Int.eq_ofNat_of_zero_le (Int.le_of_lt h0)
  have hx := x.toNat_lt
  have hb : bits .xor .u8 (x.toNat : Int) (n : Int) = ((x.toNat ^^^ n : Nat) : Int) := u8_xor_nat _ _ (by omega) (by omega)
  have hlt : x.toNat ^^^ n < 2 ^ 8 := Nat.xor_lt_two_pow (by omega) (by omega)
  refine ⟨UInt8.ofNat (x.toNat ^^^ n), ?_, ?_⟩
  · rw [hb, UInt8.toNat_ofNat', Nat.mod_eq_of_lt (by omega)]
  · intro he
    have := congrArg UInt8.toNat he
    rw [UInt8.toNat_ofNat', Nat.mod_eq_of_lt (by omega)] at this
    have h2 : x.toNat ^^^ (x.toNat ^^^ n) = x.toNat ^^^ x.toNat := by rw [← this]
    rw [← Nat.xor_assoc, Nat.xor_self, Nat.zero_xor] at h2
    omega

/-- A byte put in another's place. -/
theorem set_split (l : List UInt8) (t : Nat) (z : UInt8) (h : t < l.length) : l = l.take t ++ l[t] :: l.drop (t + 1) ∧ l.set t z = l.take t ++ z :: l.drop (t + 1) := by
  refine ⟨?_, ?_⟩
  · rw [← List.drop_eq_getElem_cons h, List.take_append_drop]
  · rw [List.set_eq_take_append_cons_drop, if_pos h]

set_option maxHeartbeats 1000000 in
set_option maxRecDepth 100000 in
theorem walk_main (s : ByteArray) (t : Nat) (y : Int) (w : World) (ht : Tab w) (hs : s.size ≤ 1048576) (hk : (putL s.size).length ≤ t) (hlt : t < (frameL s.data.toList).length) (hy0 : 0 < y) (hy1 : y ≤ 255) :
    Calls Tryd.prog 7 #[.string s, .int .i64 t, .int .u8 y] w fun e w' => e = .returned (.bool true) ∧ Below w.heap.size w w' := by
  have HT := hide ht
  clear ht
  have HF := hide (show frameR s.data.toList = (frameL s.data.toList, 0) by unfold frameR; rw [sizeL, if_neg (by omega)])
  have hl := frame_le s.data.toList (by rw [sizeL]; exact hs)
  have hfl := frameL_length s.data.toList
  rw [sizeL] at hfl
  have HFL := hide hfl
  have hp10 := putL_len10 (n := s.size) (by omega)
  have hsb := size_bts (frameL s.data.toList)
  obtain ⟨F, hF⟩ : ∃ F, F = frameL s.data.toList := ⟨_, rfl⟩
  rw [← hF] at HF hlt hl HFL hsb
  have HFF := hide hF
  clear hF hfl
  have hby : ((y : Int) == 0) = false := by simp; omega
  have kc := fun (w : World) => run_bytes_of_string (P := Tryd.prog) w 9 38 5 (bts F) Tryd.underlying9 Tryd.underlying38 Tryd.underlying5
  rw [hsb] at kc
  have hn1 : ¬ ((t : Int) < (F.length : Int) - (s.size : Int) - 4) := by have := unhide HFL; omega
  have hn2 : ¬ ((F.length : Int) ≤ (t : Int)) := by omega
  go_enter Tryd.func7, Tryd.ntmps7
  go_wp2_with fail
  refine (lives_any _ (unhide HT)).mono ?_
  rintro e w1 ⟨rfl, b1⟩
  have H1 := hide ((unhide HT).below b1)
  go_wp2_with fail
  refine (frame_any s _ (unhide H1) (by omega)).mono ?_
  rintro e w2 ⟨rfl, b2⟩
  have H2 := hide ((unhide H1).below b2)
  rw [unhide HF]
  go_upto_region 10 with (fail)
  have HB := hide (bytes_new w2 F (grownCap w2 F.length 0 5))
  have bN : Below w2.heap.size w2 (w2.alloc (.cells (bytesRow (bts F) (grownCap w2 F.length 0 5)) 5 ((bytesRow (bts F) (grownCap w2 F.length 0 5)).size, (bytesRow (bts F) (grownCap w2 F.length 0 5)).size + 1))).drew := ((Below.refl _ w2).alloc (Nat.le_refl _) _).drew
  obtain ⟨W, hW⟩ : ∃ W, W = (w2.alloc (.cells (bytesRow (bts F) (grownCap w2 F.length 0 5)) 5 ((bytesRow (bts F) (grownCap w2 F.length 0 5)).size, (bytesRow (bts F) (grownCap w2 F.length 0 5)).size + 1))).drew := ⟨_, rfl⟩
  rw [← hW] at HB bN ⊢
  clear hW kc
  generalize grownCap w2 F.length 0 5 = cap
  have hc := (unhide HB).cell t hlt
  have hfz := (unhide HB).free t hlt
  obtain ⟨z, hz, hne⟩ := xor_ne F[t] y hy0 hy1
  obtain ⟨B, hB⟩ : ∃ B, B = w2.heap.size := ⟨_, rfl⟩
  rw [← hB] at HB hc hfz ⊢
  have HL := hide (show w2.heap.size ≤ B by omega)
  clear hB
  go_upto_region 11 with (fail)
  have hcs : ∀ j (hj : j < (F.set t z).length), (W.setCell ⟨B, t, none⟩ (.int .u8 (z.toNat : Int))).cell? (Addr.add ⟨B, 0, none⟩ j) = some (.int .u8 ((F.set t z)[j].toNat : Int)) := by
    intro j hj
    have hj' : j < F.length := by simpa using hj
    have hadd : Addr.add ⟨B, 0, none⟩ j = ⟨B, j, none⟩ := by simp only [Addr.add, Nat.zero_add]; split <;> simp_all
    rw [hadd]
    by_cases e : j = t
    · subst e
      rw [World.cell?_setCell_same _ _ _ hc, List.getElem_set_self]
    · rw [World.cell?_setCell_other _ _ _ _ (by intro hh; have h3 := congrArg Addr.off hh; simp at h3; omega), (unhide HB).cell j hj', List.getElem_set_ne (by omega)]
  have bS : Below w2.heap.size w2 (W.setCell ⟨B, t, none⟩ (.int .u8 (z.toNat : Int))) := bN.setCell (p := ⟨B, t, none⟩) (unhide HL) _
  have H3 := hide ((unhide H2).below bS)
  have HE := hide (show findR (bts (F.set t z)).data.toList = .error 6 by
    have hsp := set_split F t z hlt
    rw [toList_bts, hsp.2]
    refine findR_turned s.data.toList F[t] z _ _ (by rw [sizeL]; exact hs) ?_ ?_ hne
    · rw [← unhide HFF]; exact hsp.1
    · rw [sizeL, List.length_take]; omega)
  have hcv := run_convert_bytes_back (P := Tryd.prog) (W.setCell ⟨B, t, none⟩ (.int .u8 (z.toNat : Int))) 38 9 5 ⟨B, 0, none⟩ cap (F.set t z) Tryd.underlying38 Tryd.underlying5 Tryd.underlying9 hcs
  have hls : (F.set t z).length = F.length := by simp
  rw [hls, show ({ data := (F.set t z).toArray } : ByteArray) = bts (F.set t z) from rfl] at hcv
  have HSZ := hide (show (bts (F.set t z)).size ≤ 281474976710656 by rw [size_bts, hls]; omega)
  clear hcs hc hfz HB hls
  obtain ⟨W3, hW3⟩ : ∃ W3, W3 = W.setCell ⟨B, t, none⟩ (.int .u8 (z.toNat : Int)) := ⟨_, rfl⟩
  rw [← hW3] at bS H3 hcv ⊢
  clear hW3 bN
  obtain ⟨G, hG⟩ : ∃ G, G = bts (F.set t z) := ⟨_, rfl⟩
  rw [← hG] at hcv HE HSZ
  clear hG
  go_wp2_with fail
  refine (next_err G 6 _ (unhide H3) (unhide HSZ) (unhide HE)).mono ?_
  rintro e w4 ⟨rfl, b4⟩
  go_wp2_with fail
  go_ret
  exact ⟨rfl, belows (belows (belows b1 b2) bS) b4⟩

set_option maxHeartbeats 1000000 in
set_option maxRecDepth 100000 in
theorem walk_else (s : ByteArray) (t y : Int) (w : World) (ht : Tab w) (hs : s.size ≤ 1048576) (hy0 : 0 ≤ y) (hy1 : y ≤ 255) (t0 : -9223372036854775808 ≤ t) (t1 : t ≤ 9223372036854775807)
    (hc : y = 0 ∨ t < (putL s.size).length ∨ ((frameL s.data.toList).length : Int) ≤ t) :
    Calls Tryd.prog 7 #[.string s, .int .i64 t, .int .u8 y] w fun e w' => e = .returned (.bool true) ∧ Below w.heap.size w w' := by
  have HT := hide ht
  clear ht
  have HF := hide (show frameR s.data.toList = (frameL s.data.toList, 0) by unfold frameR; rw [sizeL, if_neg (by omega)])
  have hl := frame_le s.data.toList (by rw [sizeL]; exact hs)
  have hfl := frameL_length s.data.toList
  rw [sizeL] at hfl
  have hp10 := putL_len10 (n := s.size) (by omega)
  have hsb := size_bts (frameL s.data.toList)
  obtain ⟨F, hF⟩ : ∃ F, F = frameL s.data.toList := ⟨_, rfl⟩
  rw [← hF] at HF hc hl hfl hsb
  clear hF
  by_cases h0 : y = 0
  · subst h0
    clear hc hfl
    go_enter Tryd.func7, Tryd.ntmps7
    go_wp2_with fail
    refine (lives_any _ (unhide HT)).mono ?_
    rintro e w1 ⟨rfl, b1⟩
    have H1 := hide ((unhide HT).below b1)
    go_wp2_with fail
    refine (frame_any s _ (unhide H1) (by omega)).mono ?_
    rintro e w2 ⟨rfl, b2⟩
    rw [unhide HF]
    go_wp2_with fail
    go_ret
    exact ⟨rfl, belows b1 b2⟩
  · have hby : ((y : Int) == 0) = false := by simpa using h0
    by_cases h1 : t < (F.length : Int) - (s.size : Int) - 4
    · clear hc hfl
      go_enter Tryd.func7, Tryd.ntmps7
      go_wp2_with fail
      refine (lives_any _ (unhide HT)).mono ?_
      rintro e w1 ⟨rfl, b1⟩
      have H1 := hide ((unhide HT).below b1)
      go_wp2_with fail
      refine (frame_any s _ (unhide H1) (by omega)).mono ?_
      rintro e w2 ⟨rfl, b2⟩
      rw [unhide HF]
      go_wp2_with fail
      go_ret
      exact ⟨rfl, belows b1 b2⟩
    · have h2 : (F.length : Int) ≤ t := by omega
      clear hc hfl
      go_enter Tryd.func7, Tryd.ntmps7
      go_wp2_with fail
      refine (lives_any _ (unhide HT)).mono ?_
      rintro e w1 ⟨rfl, b1⟩
      have H1 := hide ((unhide HT).below b1)
      go_wp2_with fail
      refine (frame_any s _ (unhide H1) (by omega)).mono ?_
      rintro e w2 ⟨rfl, b2⟩
      rw [unhide HF]
      go_wp2_with fail
      go_ret
      exact ⟨rfl, belows b1 b2⟩

theorem walk (a0 : ByteArray) (a1 : Int) (a2 : Int) (w : World) (ht : Tab w) (g0 : a0.size ≤ 140737488351232) (w1 : (Lit.int .i64 a1).wf = true) (w2 : (Lit.int .u8 a2).wf = true) :
    Calls Tryd.prog 7 #[.string a0, .int .i64 a1, .int .u8 a2] w fun e w' => e = .returned (.bool true) ∧ Below w.heap.size w w' := by
  have hwf := w2
  simp [Lit.wf, IntKind.min, IntKind.max, IntKind.bits, IntKind.signed] at hwf
  obtain ⟨y0, y1⟩ := hwf
  have hi := w1
  simp [Lit.wf, IntKind.min, IntKind.max, IntKind.bits, IntKind.signed] at hi
  clear w1 w2
  rcases Nat.lt_or_ge 1048576 a0.size with hbig | hs
  · have HF := hide (show frameR a0.data.toList = ([], 15) by unfold frameR; rw [sizeL, if_pos (by omega)])
    have HT := hide ht
    clear ht
    go_enter Tryd.func7, Tryd.ntmps7
    go_wp2_with fail
    refine (lives_any _ (unhide HT)).mono ?_
    rintro e w1 ⟨rfl, b1⟩
    have H1 := hide ((unhide HT).below b1)
    go_wp2_with fail
    refine (frame_any a0 _ (unhide H1) (by omega)).mono ?_
    rintro e w2 ⟨rfl, b2⟩
    rw [unhide HF, show bts [] = { data := #[] } from rfl]
    go_wp2_with fail
    go_ret
    exact ⟨rfl, belows b1 b2⟩
  · by_cases hc : a2 = 0 ∨ a1 < (putL a0.size).length ∨ ((frameL a0.data.toList).length : Int) ≤ a1
    · exact walk_else a0 a1 a2 w ht hs y0 y1 hi.1 hi.2 hc
    · have : 0 ≤ a1 := by omega
      obtain ⟨t, rfl⟩ := Int.eq_ofNat_of_zero_le this
      exact walk_main a0 t a2 w ht hs (by omega) (by omega) (by omega) y1

theorem own : ownKnob Tryd.prog.godebug = none := by kernel_rfl
theorem laidOut : laidOutB Tryd.prog = true := by kernel_rfl
theorem gTab : Tryd.prog.globalNamed "missive/rec.halves" = some 0 := by kernel_rfl
theorem gTabType : (Tryd.prog.globals[0]?).map (·.type) = some 65 := by kernel_rfl
theorem cellsArr : Tryd.prog.cellsOf 65 = 16 := by kernel_rfl
theorem cellsElem : Tryd.prog.cellsOf 28 = 1 := by kernel_rfl
theorem halves_tab : ∀ j : Fin 16, ([0, 498536548, 997073096, 651767980, 1994146192, 1802195444, 1303535960, 1342533948, 3988292384, 4027552580, 3604390888, 3412177804, 2607071920, 2262029012, 2685067896, 3183342108] : List Int).getD j.val 0 = (Go.Proofs.Crc.tab j.val : Int) := by decide +kernel

theorem table {W : World} (h : laidMetH Tryd.prog Rows.recTurnedRow.laid W) : Tab W := by
  have t : Lib.TabIs Tryd.prog W "missive/rec.halves" .u32 [0, 498536548, 997073096, 651767980, 1994146192, 1802195444, 1303535960, 1342533948, 3988292384, 4027552580, 3604390888, 3412177804, 2607071920, 2262029012, 2685067896, 3183342108] :=
    Lib.tabIs_of_head (rest := []) gTab gTabType Tryd.underlying65 Tryd.underlying28 cellsElem cellsArr h
  have c : ∀ j, j < 16 → W.cell? ⟨0, j, none⟩ = some (.int .u32 (Go.Proofs.Crc.tab j : Int)) := by
    intro j hj
    rw [t.cell gTab j (by simpa using hj), halves_tab ⟨j, hj⟩]
  refine ⟨?_, c⟩
  rcases Nat.lt_or_ge 0 W.heap.size with h' | h'
  · exact h'
  · have := c 0 (by omega)
    simp [World.cell?, Array.getElem?_eq_none h'] at this

set_option maxRecDepth 100000 in
theorem contract (H : Type) (enc : TypeId × Value → H) (W : World) (base : Nat) (args : Array Value) (ds gs : List (DataW H)) (before : List MemPlace)
    (hval : ∀ (j : Nat) t v, Tryd.f7.params[j]? = some t → args[j]? = some v → Value.okWide Tryd.prog W .any base t v)
    (hW : DataW.Whole enc Tryd.prog Tryd.f7.params.toList Rows.recTurnedSpec.vars false W args.toList ds gs before)
    (hsz : (DataW.weightsEach Tryd.prog (Tryd.f7.params.toList ++ Rows.recTurnedSpec.plain.varTypes Tryd.prog) (ds ++ gs)).all (· ≤ reachBytes) = true) (hL : laidMetH Tryd.prog Rows.recTurnedRow.laid W) :
    Calls Tryd.prog 7 args W fun e W' => ∃ v, e = .returned v ∧ Rows.recTurnedSpec.post enc Tryd.prog Tryd.f7 false true false false W args v W' := by
  have hW' := hW
  obtain ⟨p, q, hA0, hV, rfl, hfz, hnd⟩ := hW
  have hA : DataW.TrodAll enc Tryd.prog W 0 (fun _ => true) true Tryd.f7.params.toList args.toList ds p := hA0
  rw [Tryd.params7] at hA hval hsz
  obtain ⟨v0, vs0, d0, ds0, p0, q0, hargs, rfl, rfl, h0, r0⟩ := trodAll_cons hA
  obtain ⟨v1, vs1, d1, ds1, p1, q1, rfl, rfl, rfl, h1, r1⟩ := trodAll_cons r0
  obtain ⟨v2, vs2, d2, ds2, p2, q2, rfl, rfl, rfl, h2, r2⟩ := trodAll_cons r1
  obtain ⟨rfl, rfl, rfl⟩ := trodAll_nil r2
  obtain rfl : args = #[v0, v1, v2] := by cases args; simp_all
  obtain ⟨rfl, rfl⟩ := trodVars_none hV
  obtain ⟨a0, rfl, rfl, rfl, w0⟩ := open_string Tryd.underlying9 (hval 0 9 v0 rfl rfl) h0
  obtain ⟨a1, rfl, rfl, rfl, w1⟩ := open_int Tryd.underlying3 (hval 1 3 v1 rfl rfl) h1
  obtain ⟨a2, rfl, rfl, rfl, w2⟩ := open_int Tryd.underlying5 (hval 2 5 v2 rfl rfl) h2
  have g0 : a0.size ≤ 140737488351232 := by
    have := sized_string hsz (j := 0) (t := 9) rfl rfl
    simpa [reachBytes] using this
  clear hA0
  refine (walk a0 a1 a2 W (table hL) g0 w1 w2).mono fun e W' ⟨he, bel⟩ => ?_
  subst he
  exact ⟨_, rfl, _, _, _, [], _, [], hW', trodAll_mk1 (shut_bool Tryd.underlying4 _), (trodAll_cons_mk (shut_string Tryd.underlying9 w0) (trodAll_cons_mk (shut_int Tryd.underlying3 w1) (trodAll_cons_mk (shut_int Tryd.underlying5 w2) trodAll_mk0))), rfl, bel.frame _, fun h => by cases h⟩

noncomputable def laidWorld (os : Os) : World :=
  { World.holding Tryd.prog os ⟨#[], #[], []⟩ with heap := (World.holding Tryd.prog os ⟨#[], #[], []⟩).heap.modify 0 fun
      | .cells _ t frozen => .cells #[.int .u32 0, .int .u32 498536548, .int .u32 997073096, .int .u32 651767980, .int .u32 1994146192, .int .u32 1802195444, .int .u32 1303535960, .int .u32 1342533948, .int .u32 3988292384, .int .u32 4027552580, .int .u32 3604390888, .int .u32 3412177804, .int .u32 2607071920, .int .u32 2262029012, .int .u32 2685067896, .int .u32 3183342108] t frozen
      | o => o }
theorem laid_met (os : Os) : laidMet Tryd.prog Rows.recTurnedRow.laid ((laidWorld os).forCall (fun _ _ => 0) ⟨#[], #[.string ByteArray.empty, .int .i64 0, .int .u8 0], []⟩).memory :=
  laidMet_of_run' 8 (by kernel_rfl) (by kernel_rfl)
theorem reads (os : Os) {H : Type} (enc : TypeId × Value → H) : ∃ places, DataW.whole enc Tryd.prog ((laidWorld os).forCall (fun _ _ => 0) ⟨#[], #[.string ByteArray.empty, .int .i64 0, .int .u8 0], []⟩).memory Tryd.f7.params.toList Rows.recTurnedSpec.vars false (#[.string ByteArray.empty, .int .i64 0, .int .u8 0] : Array Value).toList 8 = some ([.lit (.string []), .lit (.int .i64 0), .lit (.int .u8 0)], [], places) :=
  ⟨[], by kernel_rfl⟩

set_option maxRecDepth 100000 in
theorem lifted (os : Os) (started : os.Started) (H : Type) (enc : TypeId × Value → H) (F : Stop.Interp) :
    ReturnsInHanded {} Tryd.checked os 7 .any ((OpenSpec.ofChange Rows.recTurnedSpec).preRow enc Tryd.prog Tryd.f7 Rows.recTurnedRow.domain false Rows.recTurnedRow.laid) (((OpenSpec.ofChange Rows.recTurnedSpec).at F).post enc Tryd.prog Tryd.f7 false true false false) := by
  obtain ⟨places, hx⟩ := reads os enc
  refine returnsInHanded_of_row (C := Tryd.checked) (s := OpenSpec.ofChange Rows.recTurnedSpec) own started (by kernel_rfl) Tryd.func7
    (witness_row_at (enc := enc) (C := Tryd.checked) false (laidWorld os) #[.string ByteArray.empty, .int .i64 0, .int .u8 0] rfl (by kernel_rfl) (by kernel_rfl) (by kernel_rfl)
      (OpenSpec.preRow_of_cond 8 hx (by kernel_rfl) (fun k hk => by cases hk) (by kernel_rfl) (laid_met os))) ?_
  intro W base args ds gs before hval hW _ hcond hsz hL _ _
  exact contract H enc W base args ds gs before hval hW hsz hL

theorem said : Rows.RecTurnedSaid :=
  OpenClaim.holds_of_cond 7 Tryd.f7 rfl rfl rfl rfl rfl rfl rfl ⟨rfl, rfl, rfl, rfl, rfl⟩ rfl rfl rfl rfl rfl (by kernel_rfl) Tryd.func7 (by kernel_rfl)
    (of_decide_eq_true (by kernel_rfl)) (by unfold Func.isWrapper; first | (rw [if_pos (by decide +kernel)]; kernel_rfl) | (rw [if_neg (by decide +kernel)]; exact ⟨rfl, rfl⟩))
    (fun os started H enc _ F => by rw [OpenClaim.pre_eq_preRow]; exact lifted os started H enc F)

theorem plain (f : FuncId) (fn : Func) (hf : Tryd.pinned.checked.prog.funcNamed "missive/missivelaw02.RecTurned" = some f) (hfn : Tryd.pinned.checked.prog.funcs[f]? = some fn) :
    false = Tryd.pinned.checked.prog.looks [] ∧ ∀ (j : Nat) t, fn.params[j]? = some t → Tryd.pinned.checked.prog.wantsStandIn t = false := by
  obtain rfl : f = 7 := Option.some.inj ((show Tryd.prog.funcNamed "missive/missivelaw02.RecTurned" = some 7 by kernel_rfl).symm.trans hf) |>.symm
  obtain rfl : fn = Tryd.f7 := (Option.some.inj (Tryd.func7.symm.trans hfn)).symm
  refine ⟨by kernel_rfl, fun j t ht => ?_⟩
  rw [Tryd.params7] at ht
  have hm := Array.mem_of_getElem? ht
  simp at hm
  rcases hm with rfl | rfl | rfl
  · exact (show Tryd.prog.wantsStandIn 9 = false by kernel_rfl)
  · exact (show Tryd.prog.wantsStandIn 3 = false by kernel_rfl)
  · exact (show Tryd.prog.wantsStandIn 5 = false by kernel_rfl)

theorem card : Rows.RecTurnedCardSaid :=
  Claim7.holds_tied_plain_at .later [] _ _ _ _ said (fun _ h => by cases h) (by kernel_rfl) (fun _ h => by cases h) recTurned_row_tie rfl ⟨rfl, rfl⟩ (by kernel_rfl) rfl plain (by kernel_rfl)

end Go.Proofs.YtekcbkaanlngdabDoor.recTurned
namespace Go.Proofs.YtekcbkaanlngdabDoor
/-- The statement. -/
theorem recTurned_holds : Rows.RecTurnedCardSaid := recTurned.card
#print axioms recTurned_holds
end Go.Proofs.YtekcbkaanlngdabDoor
