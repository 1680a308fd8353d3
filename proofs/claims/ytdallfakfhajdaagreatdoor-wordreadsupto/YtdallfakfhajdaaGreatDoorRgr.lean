/-
  What the document's great, Named and Name of layer 6 do, over this seat's program.
-/
import Derived.Test.YtdallfakfhajdaaGreatDoorRnm
import Derived.Laws.IdiomStrings
import Derived.Deep.Cut
set_option linter.unusedVariables false
namespace Go.Proofs.YtdallfakfhajdaaGreatDoor
open Go.RowKit Go.Proofs.Rns

/-- The world has the bytes l in block b, from its first cell on, and none of them is frozen. -/
structure Bytes (w : World) (b : Nat) (l : List UInt8) : Prop where
  cell : ∀ j (h : j < l.length), w.cell? ⟨b, j, none⟩ = some (.int .u8 (l[j].toNat : Int))
  free : ∀ j, j < l.length → w.frozen? ⟨b, j, none⟩ = false

theorem bytes_new (w : World) (l : List UInt8) (cap : Nat) : Bytes (w.alloc (.cells (bytesRow (bts l) cap) 5 ((bytesRow (bts l) cap).size, (bytesRow (bts l) cap).size + 1))).drew w.heap.size l := by
  have hsz : l.length ≤ (bytesRow (bts l) cap).size := by
    simp [bytesRow, bts]
  refine ⟨fun j hj => ?_, fun j hj => ?_⟩
  · have := World.cell?_alloc_mark w.drew (bytesRow (bts l) cap) 5 ((bytesRow (bts l) cap).size, (bytesRow (bts l) cap).size + 1) j
    refine Eq.trans this ?_
    simp [bytesRow, bts, Array.getElem?_append, hj]
  · have hh : (w.alloc (.cells (bytesRow (bts l) cap) 5 ((bytesRow (bts l) cap).size, (bytesRow (bts l) cap).size + 1))).drew.heap[w.heap.size]? = some (.cells (bytesRow (bts l) cap) 5 ((bytesRow (bts l) cap).size, (bytesRow (bts l) cap).size + 1)) := by
      show (w.heap.push _)[w.heap.size]? = _
      simp
    unfold World.frozen?
    simp only [hh]
    simp
    omega

theorem Bytes.set {w : World} {b : Nat} {l : List UInt8} (h : Bytes w b l) (t : Nat) (ht : t < l.length) (z : UInt8) : Bytes (w.setCell ⟨b, t, none⟩ (.int .u8 (z.toNat : Int))) b (l.set t z) := by
  refine ⟨fun j hj => ?_, fun j hj => ?_⟩
  · have hj' : j < l.length := by simpa using hj
    by_cases e : j = t
    · subst e
      rw [World.cell?_setCell_same _ _ _ (h.cell j ht), List.getElem_set_self]
    · rw [World.cell?_setCell_other _ _ _ _ (by intro hh; have h3 := congrArg Addr.off hh; simp at h3; omega), h.cell j hj', List.getElem_set_ne (by omega)]
  · have hj' : j < l.length := by simpa using hj
    rw [World.frozen?_setCell]; exact h.free j hj'

/-- The first k great, the rest as they were. -/
def gre (k : Nat) (l : List UInt8) : List UInt8 := (l.take k).map upB ++ l.drop k
theorem gre_len (k : Nat) (l : List UInt8) : (gre k l).length = l.length := by simp [gre]; omega
theorem gre_at (k : Nat) (l : List UInt8) (h : k < l.length) : (gre k l)[k]'(by rw [gre_len]; exact h) = l[k] := by
  unfold gre
  rw [List.getElem_append_right (by simp; omega)]
  simp [Nat.min_eq_left (Nat.le_of_lt h)]
theorem gre_next (k : Nat) (l : List UInt8) (h : k < l.length) : gre (k + 1) l = (gre k l).set k (upB l[k]) := by
  unfold gre
  rw [List.set_append_right _ _ (by simp; omega)]
  simp only [List.length_map, List.length_take, Nat.min_eq_left (Nat.le_of_lt h), Nat.sub_self]
  rw [List.drop_eq_getElem_cons h, List.set_cons_zero, List.take_succ_eq_append_getElem h]
  simp only [List.map_append, List.map_cons, List.map_nil, List.append_assoc, List.cons_append, List.nil_append]
theorem gre_same (k : Nat) (l : List UInt8) (h : k < l.length) (hu : upB l[k] = l[k]) : gre (k + 1) l = gre k l := by
  rw [gre_next k l h, hu]
  conv => lhs; rw [← gre_at k l h]
  rw [List.set_getElem_self]
theorem gre_all (l : List UInt8) (k : Nat) (h : l.length ≤ k) : gre k l = l.map upB := by simp [gre, List.take_of_length_le h, List.drop_eq_nil_of_le h]

set_option maxHeartbeats 1000000 in
set_option maxRecDepth 100000 in
theorem great_l (L : List UInt8) (w : World) (hs : L.length ≤ 1099511627776) :
    Calls Tryz.prog 71 #[.string (bts L)] w fun e w' => e = .returned (.string (bts (L.map upB))) ∧ Below w.heap.size w w' := by
  have hsb := size_bts L
  have kc := fun (w : World) => run_bytes_of_string (P := Tryz.prog) w 9 36 5 (bts L) Tryz.underlying9 Tryz.underlying36 Tryz.underlying5
  rw [hsb] at kc
  go_enter Tryz.func71, Tryz.ntmps71
  go_upto_region 2 with (fail)
  have HB := hide (bytes_new w L (grownCap w L.length 0 5))
  have bN : Below w.heap.size w (w.alloc (.cells (bytesRow (bts L) (grownCap w L.length 0 5)) 5 ((bytesRow (bts L) (grownCap w L.length 0 5)).size, (bytesRow (bts L) (grownCap w L.length 0 5)).size + 1))).drew := ((Below.refl _ w).alloc (Nat.le_refl _) _).drew
  obtain ⟨W, hW⟩ : ∃ W, W = (w.alloc (.cells (bytesRow (bts L) (grownCap w L.length 0 5)) 5 ((bytesRow (bts L) (grownCap w L.length 0 5)).size, (bytesRow (bts L) (grownCap w L.length 0 5)).size + 1))).drew := ⟨_, rfl⟩
  rw [← hW] at HB bN ⊢
  clear hW kc
  generalize grownCap w L.length 0 5 = cap
  obtain ⟨B, hB⟩ : ∃ B, B = w.heap.size := ⟨_, rfl⟩
  rw [← hB] at HB bN ⊢
  have HBE := hide hB
  clear hB hsb
  go_wp2
  go_loopw [4, 5, 10] (fun x y z wr => ∃ k : Nat, z = .int .i64 k ∧ k ≤ L.length ∧ Bytes wr B (gre k L) ∧ Below B w wr) (fun _ _ z _ => L.length - (intOf z).toNat)
  case atStart => exact ⟨0, rfl, Nat.zero_le _, by simpa [gre] using unhide HB, bN⟩
  case round =>
    obtain ⟨k, rfl, hk, hby, hbw⟩ := hrel
    by_cases hlt : k < L.length
    · have hcc := hby.cell k (by rw [gre_len]; exact hlt)
      rw [gre_at k L hlt] at hcc
      have hfz := hby.free k (by rw [gre_len]; exact hlt)
      have hlt' : (k : Int) < (L.length : Int) := by omega
      have hc := L[k].toNat_lt
      by_cases h12 : 97 ≤ L[k].toNat ∧ L[k].toNat ≤ 122
      · have hup : ((L[k].toNat : Int) - 32) = ((upB L[k]).toNat : Int) := by
          unfold upB
          rw [if_pos h12]
          simp; omega
        have hn := hby.set k (by rw [gre_len]; exact hlt) (upB L[k])
        rw [← gre_next k L hlt, ← hup] at hn
        have HN := hide hn
        have HB2 := hide (hbw.setCell (p := ⟨B, k, none⟩) (Nat.le_refl _) (.int .u8 ((L[k].toNat : Int) - 32)))
        have h1 := h12.1
        have h2 := h12.2
        clear hn hup h12 hby hbw
        generalize L[k].toNat = c at hcc HN HB2 h1 h2 hc
        go_wp2
        exact ⟨⟨k + 1, by go_num, by omega, unhide HN, unhide HB2⟩, by simp [intOf]; omega⟩
      · have hup : upB L[k] = L[k] := by unfold upB; rw [if_neg h12]
        have HN := hide (show Bytes wr B (gre (k + 1) L) by rw [gre_same k L hlt hup]; exact hby)
        have HB2 := hide hbw
        clear hup hby hbw
        generalize L[k].toNat = c at hcc h12 hc
        by_cases h1 : 97 ≤ c
        · have h2 : ¬ c ≤ 122 := fun x => h12 ⟨h1, x⟩
          clear h12
          go_wp2
          exact ⟨⟨k + 1, by go_num, by omega, unhide HN, unhide HB2⟩, by simp [intOf]; omega⟩
        · clear h12
          go_wp2
          exact ⟨⟨k + 1, by go_num, by omega, unhide HN, unhide HB2⟩, by simp [intOf]; omega⟩
    · have hlt' : ¬ (k : Int) < (L.length : Int) := by omega
      rw [gre_all L k (by omega)] at hby
      have hcs : ∀ j (hj : j < (L.map upB).length), wr.cell? (Addr.add ⟨B, 0, none⟩ j) = some (.int .u8 ((L.map upB)[j].toNat : Int)) := by
        intro j hj
        have hadd : Addr.add ⟨B, 0, none⟩ j = ⟨B, j, none⟩ := by simp only [Addr.add, Nat.zero_add]; split <;> simp_all
        rw [hadd]
        exact hby.cell j hj
      have hcv := run_convert_bytes_back (P := Tryz.prog) wr 36 9 5 ⟨B, 0, none⟩ cap (L.map upB) Tryz.underlying36 Tryz.underlying5 Tryz.underlying9 hcs
      rw [List.length_map, show ({ data := (L.map upB).toArray } : ByteArray) = bts (L.map upB) from rfl] at hcv
      have HB2 := hide hbw
      clear hcs hby hbw
      obtain ⟨x, hx⟩ : ∃ x, x = bts (L.map upB) := ⟨_, rfl⟩
      rw [← hx] at hcv
      have HX := hide hx
      clear hx
      go_wp2
      go_ret
      exact ⟨by rw [← unhide HX]; rfl, by rw [← unhide HBE]; exact unhide HB2⟩

theorem great_any (s : ByteArray) (w : World) (hs : s.size ≤ 1099511627776) :
    Calls Tryz.prog 71 #[.string s] w fun e w' => e = .returned (.string (bts (s.data.toList.map upB))) ∧ Below w.heap.size w w' := by
  have h := great_l s.data.toList w (by rw [sizeL]; exact hs)
  rw [bts_toList] at h
  exact h

set_option maxHeartbeats 2000000 in
set_option maxRecDepth 100000 in
/-- The document's Named. -/
theorem refNamed_any (s : ByteArray) (w : World) (hs : s.size ≤ 1099511627776) :
    Calls Tryz.prog 30 #[.string s] w fun e w' => e = .returned (.tuple #[.int .u8 (namedR s.data.toList).1, .int .i64 (namedR s.data.toList).2]) ∧ Below w.heap.size w w' := by
  have hg := fun W => great_any s W hs
  have hx : (bts (s.data.toList.map upB)).toList = s.data.toList.map upB := by rw [ByteArray.toList_eq, toList_bts]
  unfold namedR
  generalize s.data.toList.map upB = u at hg hx ⊢
  generalize bts u = x at hg hx
  have HG := hide hg
  have HX := hide hx
  clear hg hx
  by_cases h0 : u = [85, 83, 45, 65, 83, 67, 73, 73]
  · have hb : (x.toList == [85, 83, 45, 65, 83, 67, 73, 73]) = true := by rw [unhide HX, h0]; rfl
    rw [show namedF u namesT = (1, 0) by rw [h0]; decide +kernel]
    clear h0
    go_enter Tryz.func30, Tryz.ntmps30
    go_wp2_with fail
    refine (unhide HG _).mono ?_
    rintro e w1 ⟨rfl, b1⟩
    go_wp2
    go_ret2
    exact ⟨rfl, b1⟩
  have b0x : (x.toList == [85, 83, 45, 65, 83, 67, 73, 73]) = false := by rw [unhide HX]; exact beq_eq_false_iff_ne.2 h0
  by_cases h1 : u = [65, 83, 67, 73, 73]
  · have hb : (x.toList == [65, 83, 67, 73, 73]) = true := by rw [unhide HX, h1]; rfl
    rw [show namedF u namesT = (1, 0) by rw [h1]; decide +kernel]
    clear h0 h1
    go_enter Tryz.func30, Tryz.ntmps30
    go_wp2_with fail
    refine (unhide HG _).mono ?_
    rintro e w1 ⟨rfl, b1⟩
    go_wp2
    go_ret2
    exact ⟨rfl, b1⟩
  have b1x : (x.toList == [65, 83, 67, 73, 73]) = false := by rw [unhide HX]; exact beq_eq_false_iff_ne.2 h1
  by_cases h2 : u = [85, 84, 70, 45, 56]
  · have hb : (x.toList == [85, 84, 70, 45, 56]) = true := by rw [unhide HX, h2]; rfl
    rw [show namedF u namesT = (2, 0) by rw [h2]; decide +kernel]
    clear h0 h1 h2
    go_enter Tryz.func30, Tryz.ntmps30
    go_wp2_with fail
    refine (unhide HG _).mono ?_
    rintro e w1 ⟨rfl, b1⟩
    go_wp2
    go_ret2
    exact ⟨rfl, b1⟩
  have b2x : (x.toList == [85, 84, 70, 45, 56]) = false := by rw [unhide HX]; exact beq_eq_false_iff_ne.2 h2
  by_cases h3 : u = [85, 84, 70, 56]
  · have hb : (x.toList == [85, 84, 70, 56]) = true := by rw [unhide HX, h3]; rfl
    rw [show namedF u namesT = (2, 0) by rw [h3]; decide +kernel]
    clear h0 h1 h2 h3
    go_enter Tryz.func30, Tryz.ntmps30
    go_wp2_with fail
    refine (unhide HG _).mono ?_
    rintro e w1 ⟨rfl, b1⟩
    go_wp2
    go_ret2
    exact ⟨rfl, b1⟩
  have b3x : (x.toList == [85, 84, 70, 56]) = false := by rw [unhide HX]; exact beq_eq_false_iff_ne.2 h3
  by_cases h4 : u = [73, 83, 79, 45, 56, 56, 53, 57, 45, 49]
  · have hb : (x.toList == [73, 83, 79, 45, 56, 56, 53, 57, 45, 49]) = true := by rw [unhide HX, h4]; rfl
    rw [show namedF u namesT = (3, 0) by rw [h4]; decide +kernel]
    clear h0 h1 h2 h3 h4
    go_enter Tryz.func30, Tryz.ntmps30
    go_wp2_with fail
    refine (unhide HG _).mono ?_
    rintro e w1 ⟨rfl, b1⟩
    go_wp2
    go_ret2
    exact ⟨rfl, b1⟩
  have b4x : (x.toList == [73, 83, 79, 45, 56, 56, 53, 57, 45, 49]) = false := by rw [unhide HX]; exact beq_eq_false_iff_ne.2 h4
  by_cases h5 : u = [76, 65, 84, 73, 78, 49]
  · have hb : (x.toList == [76, 65, 84, 73, 78, 49]) = true := by rw [unhide HX, h5]; rfl
    rw [show namedF u namesT = (3, 0) by rw [h5]; decide +kernel]
    clear h0 h1 h2 h3 h4 h5
    go_enter Tryz.func30, Tryz.ntmps30
    go_wp2_with fail
    refine (unhide HG _).mono ?_
    rintro e w1 ⟨rfl, b1⟩
    go_wp2
    go_ret2
    exact ⟨rfl, b1⟩
  have b5x : (x.toList == [76, 65, 84, 73, 78, 49]) = false := by rw [unhide HX]; exact beq_eq_false_iff_ne.2 h5
  by_cases h6 : u = [73, 83, 79, 45, 56, 56, 53, 57, 45, 49, 53]
  · have hb : (x.toList == [73, 83, 79, 45, 56, 56, 53, 57, 45, 49, 53]) = true := by rw [unhide HX, h6]; rfl
    rw [show namedF u namesT = (4, 0) by rw [h6]; decide +kernel]
    clear h0 h1 h2 h3 h4 h5 h6
    go_enter Tryz.func30, Tryz.ntmps30
    go_wp2_with fail
    refine (unhide HG _).mono ?_
    rintro e w1 ⟨rfl, b1⟩
    go_wp2
    go_ret2
    exact ⟨rfl, b1⟩
  have b6x : (x.toList == [73, 83, 79, 45, 56, 56, 53, 57, 45, 49, 53]) = false := by rw [unhide HX]; exact beq_eq_false_iff_ne.2 h6
  by_cases h7 : u = [76, 65, 84, 73, 78, 57]
  · have hb : (x.toList == [76, 65, 84, 73, 78, 57]) = true := by rw [unhide HX, h7]; rfl
    rw [show namedF u namesT = (4, 0) by rw [h7]; decide +kernel]
    clear h0 h1 h2 h3 h4 h5 h6 h7
    go_enter Tryz.func30, Tryz.ntmps30
    go_wp2_with fail
    refine (unhide HG _).mono ?_
    rintro e w1 ⟨rfl, b1⟩
    go_wp2
    go_ret2
    exact ⟨rfl, b1⟩
  have b7x : (x.toList == [76, 65, 84, 73, 78, 57]) = false := by rw [unhide HX]; exact beq_eq_false_iff_ne.2 h7
  by_cases h8 : u = [87, 73, 78, 68, 79, 87, 83, 45, 49, 50, 53, 50]
  · have hb : (x.toList == [87, 73, 78, 68, 79, 87, 83, 45, 49, 50, 53, 50]) = true := by rw [unhide HX, h8]; rfl
    rw [show namedF u namesT = (5, 0) by rw [h8]; decide +kernel]
    clear h0 h1 h2 h3 h4 h5 h6 h7 h8
    go_enter Tryz.func30, Tryz.ntmps30
    go_wp2_with fail
    refine (unhide HG _).mono ?_
    rintro e w1 ⟨rfl, b1⟩
    go_wp2
    go_ret2
    exact ⟨rfl, b1⟩
  have b8x : (x.toList == [87, 73, 78, 68, 79, 87, 83, 45, 49, 50, 53, 50]) = false := by rw [unhide HX]; exact beq_eq_false_iff_ne.2 h8
  by_cases h9 : u = [67, 80, 49, 50, 53, 50]
  · have hb : (x.toList == [67, 80, 49, 50, 53, 50]) = true := by rw [unhide HX, h9]; rfl
    rw [show namedF u namesT = (5, 0) by rw [h9]; decide +kernel]
    clear h0 h1 h2 h3 h4 h5 h6 h7 h8 h9
    go_enter Tryz.func30, Tryz.ntmps30
    go_wp2_with fail
    refine (unhide HG _).mono ?_
    rintro e w1 ⟨rfl, b1⟩
    go_wp2
    go_ret2
    exact ⟨rfl, b1⟩
  have b9x : (x.toList == [67, 80, 49, 50, 53, 50]) = false := by rw [unhide HX]; exact beq_eq_false_iff_ne.2 h9
  rw [show namedF u namesT = (0, 14) by simp only [namesT, namedF, if_neg h0, if_neg h1, if_neg h2, if_neg h3, if_neg h4, if_neg h5, if_neg h6, if_neg h7, if_neg h8, if_neg h9]]
  clear h0 h1 h2 h3 h4 h5 h6 h7 h8 h9
  go_enter Tryz.func30, Tryz.ntmps30
  go_wp2_with fail
  refine (unhide HG _).mono ?_
  rintro e w1 ⟨rfl, b1⟩
  go_wp2
  go_ret2
  exact ⟨rfl, b1⟩

set_option maxHeartbeats 1000000 in
set_option maxRecDepth 100000 in
/-- The document's Name. -/
theorem refNameG_any (c : Nat) (w : World) (hc : c < 256) :
    Calls Tryz.prog 74 #[.int .u8 c] w fun e w' => e = .returned (.tuple #[.string (bts (nameR c).1), .int .i64 (nameR c).2]) ∧ w' = w := by
  by_cases h1 : c = 1
  · have hb : ((c : Int) == 1) = true := by rw [h1]; rfl
    rw [show nameR c = ([85, 83, 45, 65, 83, 67, 73, 73], 0) by rw [h1]; decide +kernel]
    clear h1
    go_enter Tryz.func74, Tryz.ntmps74
    go_wp2
    go_ret2
    exact ⟨rfl, rfl⟩
  have b1x : ((c : Int) == 1) = false := by simp; omega
  by_cases h2 : c = 2
  · have hb : ((c : Int) == 2) = true := by rw [h2]; rfl
    rw [show nameR c = ([85, 84, 70, 45, 56], 0) by rw [h2]; decide +kernel]
    clear h1 h2
    go_enter Tryz.func74, Tryz.ntmps74
    go_wp2
    go_ret2
    exact ⟨rfl, rfl⟩
  have b2x : ((c : Int) == 2) = false := by simp; omega
  by_cases h3 : c = 3
  · have hb : ((c : Int) == 3) = true := by rw [h3]; rfl
    rw [show nameR c = ([73, 83, 79, 45, 56, 56, 53, 57, 45, 49], 0) by rw [h3]; decide +kernel]
    clear h1 h2 h3
    go_enter Tryz.func74, Tryz.ntmps74
    go_wp2
    go_ret2
    exact ⟨rfl, rfl⟩
  have b3x : ((c : Int) == 3) = false := by simp; omega
  by_cases h4 : c = 4
  · have hb : ((c : Int) == 4) = true := by rw [h4]; rfl
    rw [show nameR c = ([73, 83, 79, 45, 56, 56, 53, 57, 45, 49, 53], 0) by rw [h4]; decide +kernel]
    clear h1 h2 h3 h4
    go_enter Tryz.func74, Tryz.ntmps74
    go_wp2
    go_ret2
    exact ⟨rfl, rfl⟩
  have b4x : ((c : Int) == 4) = false := by simp; omega
  by_cases h5 : c = 5
  · have hb : ((c : Int) == 5) = true := by rw [h5]; rfl
    rw [show nameR c = ([87, 73, 78, 68, 79, 87, 83, 45, 49, 50, 53, 50], 0) by rw [h5]; decide +kernel]
    clear h1 h2 h3 h4 h5
    go_enter Tryz.func74, Tryz.ntmps74
    go_wp2
    go_ret2
    exact ⟨rfl, rfl⟩
  have b5x : ((c : Int) == 5) = false := by simp; omega
  rw [show nameR c = ([], 14) by simp only [nameR, nameF, namesT, if_neg (show ¬ 1 = c from fun e => h1 e.symm), if_neg (show ¬ 2 = c from fun e => h2 e.symm), if_neg (show ¬ 3 = c from fun e => h3 e.symm), if_neg (show ¬ 4 = c from fun e => h4 e.symm), if_neg (show ¬ 5 = c from fun e => h5 e.symm)]]
  clear h1 h2 h3 h4 h5
  go_enter Tryz.func74, Tryz.ntmps74
  go_wp2
  go_ret2
  exact ⟨rfl, rfl⟩
end Go.Proofs.YtdallfakfhajdaaGreatDoor
