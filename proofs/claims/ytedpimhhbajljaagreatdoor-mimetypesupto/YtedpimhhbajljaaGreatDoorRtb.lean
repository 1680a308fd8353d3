/-
  The tables of package runes as they lie in memory, and what runes.alike, Named, Name, isCharset and letterOf do, over this seat's program.
-/
import Derived.Test.YtedpimhhbajljaaGreatDoorBlc
import Derived.Test.YtedpimhhbajljaaGreatDoorRns
import Derived.BigCall
import Derived.Deep.QuietTactic
import Derived.BigQuiet
import Derived.WalkSmall
set_option linter.unusedVariables false
namespace Go.Proofs.YtedpimhhbajljaaGreatDoor
open Go.RowKit Go.Proofs.Rns

/-- The charsets' names. -/
def namesT : List (List UInt8 × Nat) := [([85, 83, 45, 65, 83, 67, 73, 73], 1), ([65, 83, 67, 73, 73], 1), ([85, 84, 70, 45, 56], 2), ([85, 84, 70, 56], 2), ([73, 83, 79, 45, 56, 56, 53, 57, 45, 49], 3), ([76, 65, 84, 73, 78, 49], 3), ([73, 83, 79, 45, 56, 56, 53, 57, 45, 49, 53], 4), ([76, 65, 84, 73, 78, 57], 4), ([87, 73, 78, 68, 79, 87, 83, 45, 49, 50, 53, 50], 5), ([67, 80, 49, 50, 53, 50], 5)]
/-- Their cells. -/
def namesC : List Value := namesT.flatMap fun p => [.string (bts p.1), .int .u8 (p.2 : Int)]

/-- The letters' tables lie in their variables. -/
structure RTab (w : World) : Prop where
  size : 6 ≤ w.heap.size
  windows : ∀ j, j < 32 → w.cell? ⟨4, j, none⟩ = some (.int .i32 (winT.getD j 0 : Int))
  latin9 : ∀ j, j < 31 → w.cell? ⟨5, j, none⟩ = some (.int .i32 (lat9T.getD j 0 : Int))
  utf8 : Lib.Utf8Tabs 2 3 w
/-- So does the table of names. -/
structure RTabN (w : World) : Prop extends RTab w where
  names : ∀ j v, namesC[j]? = some v → w.cell? ⟨0, j, none⟩ = some v

theorem RTab.below {w w' : World} (h : RTab w) (hb : Below w.heap.size w w') : RTab w' := by
  have hz := hb.size
  have h5 := h.size
  refine ⟨by omega, fun j hj => ?_, fun j hj => ?_, Utf8Tabs_below h.utf8 hb⟩
  · rw [hb.cell (p := ⟨4, j, none⟩) (by show 4 < _; omega)]; exact h.windows j hj
  · rw [hb.cell (p := ⟨5, j, none⟩) (by show 5 < _; omega)]; exact h.latin9 j hj
theorem RTabN.below {w w' : World} (h : RTabN w) (hb : Below w.heap.size w w') : RTabN w' := by
  have hz := hb.size
  have h5 := h.size
  refine ⟨h.toRTab.below hb, fun j v hj => ?_⟩
  rw [hb.cell (p := ⟨0, j, none⟩) (by show 0 < _; omega)]; exact h.names j v hj

theorem RTab.low {w w' : World} (h : RTab w) (hb : Below 6 w w') : RTab w' := by
  have hz := hb.size
  have h5 := h.size
  refine ⟨by omega, fun j hj => ?_, fun j hj => ?_, ⟨fun c hc => ?_, fun i hi => ⟨?_, ?_⟩⟩⟩
  · rw [hb.cell (p := ⟨4, j, none⟩) (by show 4 < _; omega)]; exact h.windows j hj
  · rw [hb.cell (p := ⟨5, j, none⟩) (by show 5 < _; omega)]; exact h.latin9 j hj
  · rw [hb.cell (p := ⟨2, c, none⟩) (by show 2 < _; omega)]; exact h.utf8.1 c hc
  · rw [hb.cell (p := ⟨3, 2 * i, none⟩) (by show 3 < _; omega)]; exact (h.utf8.2 i hi).1
  · rw [hb.cell (p := ⟨3, 2 * i + 1, none⟩) (by show 3 < _; omega)]; exact (h.utf8.2 i hi).2
theorem RTab.drewN {w : World} (h : RTab w) (n : Nat) : RTab (w.drewN n) := ⟨h.size, h.windows, h.latin9, h.utf8⟩
theorem RTabN.drewN {w : World} (h : RTabN w) (n : Nat) : RTabN (w.drewN n) := ⟨h.toRTab.drewN n, h.names⟩

/-- A great letter for a small one. -/
def upB (c : UInt8) : UInt8 := if 97 ≤ c.toNat ∧ c.toNat ≤ 122 then UInt8.ofNat (c.toNat - 32) else c

set_option maxHeartbeats 1000000 in
set_option maxRecDepth 100000 in
theorem alike_any (s g : ByteArray) (w : World) (hs : s.size ≤ 281474976710656) (hg : g.size ≤ 281474976710656) :
    Calls Tryz.prog 77 #[.string s, .string g] w fun e w' => e = .returned (.bool (decide (s.data.toList.map upB = g.data.toList))) ∧ w' = w := by
  have hsl := sizeL s
  have hgl := sizeL g
  by_cases hsz : s.size = g.size
  · have hb : ((s.size : Int) != (g.size : Int)) = false := by simp [hsz]
    have HSZ := hide hsz
    clear hsz
    go_enter Tryz.func77, Tryz.ntmps77
    go_wp2
    go_loop [5, 6, 14] (fun x y z => ∃ k : Nat, z = .int .i64 k ∧ k ≤ s.size ∧ Hid ((s.data.toList.take k).map upB = g.data.toList.take k)) (fun _ _ z => s.size - (intOf z).toNat)
    case atStart => exact ⟨0, rfl, by omega, hide (by simp)⟩
    case round =>
      obtain ⟨k, rfl, hk, HT⟩ := hrel
      by_cases hlt : k < s.size
      · have hlt2 : k < g.size := by have := unhide HSZ; omega
        have hc := s[k].toNat_lt
        have hd := g[k].toNat_lt
        have hts := take_byte s k hlt
        have htg := take_byte g k hlt2
        have hup : ((upB s[k]).toNat : Int) = if 97 ≤ s[k].toNat ∧ s[k].toNat ≤ 122 then (s[k].toNat : Int) - 32 else (s[k].toNat : Int) := by
          unfold upB
          split
          · simp; omega
          · rfl
        by_cases he : upB s[k] = g[k]
        · have hnx : (s.data.toList.take (k + 1)).map upB = g.data.toList.take (k + 1) := by rw [hts, htg, List.map_append, unhide HT]; simp [he]
          have HN := hide hnx
          rw [he] at hup
          by_cases h1 : 97 ≤ s[k].toNat
          · by_cases h2 : s[k].toNat ≤ 122
            · rw [if_pos ⟨h1, h2⟩] at hup
              have hq : (((s[k].toNat : Int) - 32) != (g[k].toNat : Int)) = false := by simp; omega
              clear hnx hup he hts htg hsl hgl
              go_wp2
              exact ⟨⟨k + 1, by go_num, by omega, HN⟩, by simp [intOf]; omega⟩
            · rw [if_neg (fun x => h2 x.2)] at hup
              have hq : ((s[k].toNat : Int) != (g[k].toNat : Int)) = false := by simp; omega
              clear hnx hup he hts htg hsl hgl
              go_wp2
              exact ⟨⟨k + 1, by go_num, by omega, HN⟩, by simp [intOf]; omega⟩
          · rw [if_neg (fun x => h1 x.1)] at hup
            have hq : ((s[k].toNat : Int) != (g[k].toNat : Int)) = false := by simp; omega
            clear hnx hup he hts htg hsl hgl
            go_wp2
            exact ⟨⟨k + 1, by go_num, by omega, HN⟩, by simp [intOf]; omega⟩
        · have hfin : decide (s.data.toList.map upB = g.data.toList) = false := by
            rw [decide_eq_false_iff_not]
            intro h
            apply he
            have h1 : (s.data.toList.map upB)[k]? = g.data.toList[k]? := by rw [h]
            rw [List.getElem?_map, List.getElem?_eq_getElem (by omega), List.getElem?_eq_getElem (by omega)] at h1
            simp only [Option.map_some, Option.some.injEq] at h1
            exact h1
          have HF := hide hfin
          have hne : (upB s[k]).toNat ≠ g[k].toNat := fun e => he (UInt8.toNat_inj.1 e)
          by_cases h1 : 97 ≤ s[k].toNat
          · by_cases h2 : s[k].toNat ≤ 122
            · rw [if_pos ⟨h1, h2⟩] at hup
              have hq : (((s[k].toNat : Int) - 32) != (g[k].toNat : Int)) = true := by simp; omega
              clear hfin hup he hts htg hsl hgl hne
              go_wp2
              go_ret
              exact ⟨by rw [unhide HF]; rfl, rfl⟩
            · rw [if_neg (fun x => h2 x.2)] at hup
              have hq : ((s[k].toNat : Int) != (g[k].toNat : Int)) = true := by simp; omega
              clear hfin hup he hts htg hsl hgl hne
              go_wp2
              go_ret
              exact ⟨by rw [unhide HF]; rfl, rfl⟩
          · rw [if_neg (fun x => h1 x.1)] at hup
            have hq : ((s[k].toNat : Int) != (g[k].toNat : Int)) = true := by simp; omega
            clear hfin hup he hts htg hsl hgl hne
            go_wp2
            go_ret
            exact ⟨by rw [unhide HF]; rfl, rfl⟩
      · have hfin : decide (s.data.toList.map upB = g.data.toList) = true := by
          rw [decide_eq_true_iff]
          have := unhide HT
          have h2 := unhide HSZ
          rw [List.take_of_length_le (by omega), List.take_of_length_le (by omega)] at this
          exact this
        have HF := hide hfin
        clear hfin hsl hgl
        go_wp2
        go_ret
        exact ⟨by rw [unhide HF]; rfl, rfl⟩
  · have hb : ((s.size : Int) != (g.size : Int)) = true := by simp; omega
    have hfin : decide (s.data.toList.map upB = g.data.toList) = false := by
      rw [decide_eq_false_iff_not]
      intro h
      have := congrArg List.length h
      simp at this
      omega
    have HF := hide hfin
    clear hfin hsz hsl hgl
    go_enter Tryz.func77, Tryz.ntmps77
    go_wp2
    go_ret
    exact ⟨by rw [unhide HF]; rfl, rfl⟩

theorem ret_b {a b : Bool} (h : a = b) : Ending.returned (.bool a) = .returned (.bool b) := by rw [h]

set_option maxHeartbeats 400000 in
theorem isCharset_any (c : Nat) (w : World) (hc : c < 256) :
    Calls Tryz.prog 78 #[.int .u8 c] w fun e w' => e = .returned (.bool (decide (1 ≤ c ∧ c ≤ 5))) ∧ w' = w := by
  by_cases h0 : 0 < c
  · have h0' : (0 : Int) < (c : Int) := by omega
    by_cases h6 : c < 6
    · have hf : decide (1 ≤ c ∧ c ≤ 5) = true := by simp; omega
      rw [hf]
      clear hf
      go_enter Tryz.func78, Tryz.ntmps78
      go_wp2
      go_ret
      exact ⟨ret_b (by simp; omega), rfl⟩
    · have hf : decide (1 ≤ c ∧ c ≤ 5) = false := by simp; omega
      rw [hf]
      clear hf
      go_enter Tryz.func78, Tryz.ntmps78
      go_wp2
      go_ret
      exact ⟨ret_b (by simp; omega), rfl⟩
  · have hf : decide (1 ≤ c ∧ c ≤ 5) = false := by simp; omega
    have h0' : ¬ (0 : Int) < (c : Int) := by omega
    rw [hf]
    clear hf
    go_enter Tryz.func78, Tryz.ntmps78
    go_wp2
    go_ret
    exact ⟨rfl, rfl⟩
end Go.Proofs.YtedpimhhbajljaaGreatDoor
