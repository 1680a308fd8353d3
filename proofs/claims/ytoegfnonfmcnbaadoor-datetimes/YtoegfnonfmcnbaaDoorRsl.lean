/-
  What the document's small and Like of layer 8 do (as in Whf), over this seat's program.
-/
import Derived.Test.YtoegfnonfmcnbaaDoorHlk
import Derived.Test.YtoegfnonfmcnbaaDoorByt
set_option linter.unusedVariables false
namespace Go.Proofs.YtoegfnonfmcnbaaDoor
open Go.RowKit

set_option maxHeartbeats 1000000 in
set_option maxRecDepth 100000 in
theorem refSmall_l (L : List UInt8) (w : World) (hs : L.length ≤ 1099511627776) :
    Calls Tryd.prog 61 #[.string (bts L)] w fun e w' => e = .returned (.string (bts (L.map smB))) ∧ Below w.heap.size w w' := by
  have hsb := size_bts L
  have kc := fun (w : World) => run_bytes_of_string (P := Tryd.prog) w 9 43 5 (bts L) Tryd.underlying9 Tryd.underlying43 Tryd.underlying5
  rw [hsb] at kc
  go_enter Tryd.func61, Tryd.ntmps61
  go_upto_region 2 with (fail)
  have HB := hide (bytes_new w L (grownCap w L.length 0 5))
  have bN : Below w.heap.size w (w.alloc (.cells (bytesRow (bts L) (grownCap w L.length 0 5)) 5 ((bytesRow (bts L) (grownCap w L.length 0 5)).size, (bytesRow (bts L) (grownCap w L.length 0 5)).size + 1))).drew := ((Below.refl _ w).alloc (Nat.le_refl _) _).drew
  obtain ⟨W, hW⟩ : ∃ W, W = (w.alloc (.cells (bytesRow (bts L) (grownCap w L.length 0 5)) 5 ((bytesRow (bts L) (grownCap w L.length 0 5)).size, (bytesRow (bts L) (grownCap w L.length 0 5)).size + 1))).drew := ⟨_, rfl⟩
  rw [← hW] at HB bN ⊢
  clear hW kc
  generalize grownCap w L.length 0 5 = cap
  obtain ⟨B, hB⟩ : ∃ B, B = w.heap.size := ⟨_, rfl⟩
  rw [← hB] at HB bN ⊢
  have HBE := hide hB
  clear hB hsb
  go_wp2
  go_loopw [4, 5, 10] (fun x y z wr => ∃ k : Nat, z = .int .i64 k ∧ k ≤ L.length ∧ Bytes wr B (greF smB k L) ∧ Below B w wr) (fun _ _ z _ => L.length - (intOf z).toNat)
  case atStart => exact ⟨0, rfl, Nat.zero_le _, by simpa [greF] using unhide HB, bN⟩
  case round =>
    obtain ⟨k, rfl, hk, hby, hbw⟩ := hrel
    by_cases hlt : k < L.length
    · have hcc := hby.cell k (by rw [greF_len]; exact hlt)
      rw [greF_at smB k L hlt] at hcc
      have hfz := hby.free k (by rw [greF_len]; exact hlt)
      have hlt' : (k : Int) < (L.length : Int) := by omega
      have hc := L[k].toNat_lt
      by_cases h12 : 65 ≤ L[k].toNat ∧ L[k].toNat ≤ 90
      · have hup : ((L[k].toNat : Int) + 32) = ((smB L[k]).toNat : Int) := by
          unfold smB
          rw [if_pos h12]
          simp; omega
        have hn := hby.set k (by rw [greF_len]; exact hlt) (smB L[k])
        rw [← greF_next smB k L hlt, ← hup] at hn
        have HN := hide hn
        have HB2 := hide (hbw.setCell (p := ⟨B, k, none⟩) (Nat.le_refl _) (.int .u8 ((L[k].toNat : Int) + 32)))
        have h1 := h12.1
        have h2 := h12.2
        clear hn hup h12 hby hbw
        generalize L[k].toNat = c at hcc HN HB2 h1 h2 hc
        go_wp2
        exact ⟨⟨k + 1, by go_num, by omega, unhide HN, unhide HB2⟩, by simp [intOf]; omega⟩
      · have hup : smB L[k] = L[k] := by unfold smB; rw [if_neg h12]
        have HN := hide (show Bytes wr B (greF smB (k + 1) L) by rw [greF_same smB k L hlt hup]; exact hby)
        have HB2 := hide hbw
        clear hup hby hbw
        generalize L[k].toNat = c at hcc h12 hc
        by_cases h1 : 65 ≤ c
        · have h2 : ¬ c ≤ 90 := fun x => h12 ⟨h1, x⟩
          clear h12
          go_wp2
          exact ⟨⟨k + 1, by go_num, by omega, unhide HN, unhide HB2⟩, by simp [intOf]; omega⟩
        · clear h12
          go_wp2
          exact ⟨⟨k + 1, by go_num, by omega, unhide HN, unhide HB2⟩, by simp [intOf]; omega⟩
    · have hlt' : ¬ (k : Int) < (L.length : Int) := by omega
      rw [greF_all smB L k (by omega)] at hby
      have hcs : ∀ j (hj : j < (L.map smB).length), wr.cell? (Addr.add ⟨B, 0, none⟩ j) = some (.int .u8 ((L.map smB)[j].toNat : Int)) := by
        intro j hj
        have hadd : Addr.add ⟨B, 0, none⟩ j = ⟨B, j, none⟩ := by simp only [Addr.add, Nat.zero_add]; split <;> simp_all
        rw [hadd]
        exact hby.cell j hj
      have hcv := run_convert_bytes_back (P := Tryd.prog) wr 43 9 5 ⟨B, 0, none⟩ cap (L.map smB) Tryd.underlying43 Tryd.underlying5 Tryd.underlying9 hcs
      rw [List.length_map, show ({ data := (L.map smB).toArray } : ByteArray) = bts (L.map smB) from rfl] at hcv
      have HB2 := hide hbw
      clear hcs hby hbw
      obtain ⟨x, hx⟩ : ∃ x, x = bts (L.map smB) := ⟨_, rfl⟩
      rw [← hx] at hcv
      have HX := hide hx
      clear hx
      go_wp2
      go_ret
      exact ⟨by rw [← unhide HX]; rfl, by rw [← unhide HBE]; exact unhide HB2⟩

theorem refSmall_any (s : ByteArray) (w : World) (hs : s.size ≤ 1099511627776) :
    Calls Tryd.prog 61 #[.string s] w fun e w' => e = .returned (.string (bts (s.data.toList.map smB))) ∧ Below w.heap.size w w' := by
  have h := refSmall_l s.data.toList w (by rw [sizeL]; exact hs)
  rw [bts_toList] at h
  exact h


set_option maxHeartbeats 1000000 in
theorem refLike_any (s g : ByteArray) (w : World) (hs : s.size ≤ 1099511627776) (hg : g.size ≤ 1099511627776) :
    Calls Tryd.prog 43 #[.string s, .string g] w fun e w' => e = .returned (.bool (decide (smL s.data.toList = smL g.data.toList))) ∧ Below w.heap.size w w' := by
  have H1 := hide (refSmall_any s w hs)
  have H2 := hide (fun W => refSmall_any g W hg)
  have hd : decide (smL s.data.toList = smL g.data.toList) = decide (bts (s.data.toList.map smB) = bts (g.data.toList.map smB)) := by
    congr 1
    apply propext
    constructor
    · intro h; unfold smL at h; rw [h]
    · intro h
      have := congrArg (fun b : ByteArray => b.data.toList) h
      simpa [toList_bts, smL] using this
  rw [hd, ← beqS]
  clear hd
  generalize bts (s.data.toList.map smB) = x at H1 ⊢
  generalize bts (g.data.toList.map smB) = y at H2 ⊢
  go_enter Tryd.func43, Tryd.ntmps43
  go_wp2_with fail
  refine (unhide H1).mono ?_
  rintro e w1 ⟨rfl, b1⟩
  have HB1 := hide b1
  clear b1
  go_wp2_with fail
  refine (unhide H2 _).mono ?_
  rintro e w2 ⟨rfl, b2⟩
  have HB2 := hide (belows' (unhide HB1) b2)
  clear b2
  go_wp2
  go_ret
  exact ⟨rfl, unhide HB2⟩

end Go.Proofs.YtoegfnonfmcnbaaDoor
