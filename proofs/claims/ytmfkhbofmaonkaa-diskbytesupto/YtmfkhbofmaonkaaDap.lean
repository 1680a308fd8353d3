/-
  What disk.joined and (disk.system).fits do, over this seat's program.
-/
import Derived.Test.YtmfkhbofmaonkaaDst
import Derived.Test.YtmfkhbofmaonkaaWrb
set_option linter.unusedVariables false
set_option linter.unusedSimpArgs false
namespace Go.Proofs.Ytmfkhbofmaonkaa
open Go.RowKit Go.Proofs.Dsk

theorem total_take {l : List ByteArray} {k : Nat} (h : k < l.length) : total (l.take (k + 1)) = total (l.take k) + l[k].size := by
  unfold total
  rw [List.take_succ_eq_append_getElem h, List.map_append, List.sum_append_nat]
  simp
theorem total_le (l : List ByteArray) (k : Nat) : total (l.take k) ≤ total l := by
  have : total l = total (l.take k) + total (l.drop k) := by
    unfold total
    rw [← List.sum_append_nat, ← List.map_append, List.take_append_drop]
  omega
def flatB (l : List ByteArray) : List UInt8 := l.flatMap fun t => t.data.toList
theorem flatB_take {l : List ByteArray} {k : Nat} (h : k < l.length) : flatB (l.take (k + 1)) = flatB (l.take k) ++ l[k].data.toList := by
  unfold flatB
  rw [List.take_succ_eq_append_getElem h, List.flatMap_append]
  simp
theorem flatB_length (l : List ByteArray) : (flatB l).length = total l := by
  induction l with
  | nil => rfl
  | cons x r ih => simp only [flatB, total, List.flatMap_cons, List.length_append, List.map_cons, List.sum_cons, sizeL] at ih ⊢; rw [ih]
theorem joinB_size (s : ByteArray) (l : List ByteArray) : (joinB s l).size = s.size + total l := by
  rw [← sizeL]
  show (s.data.toList ++ flatB l).toArray.toList.length = _
  rw [List.toList_toArray, List.length_append, sizeL, flatB_length]

set_option maxHeartbeats 2000000 in
set_option maxRecDepth 100000 in
theorem joined_any (s : ByteArray) (v : Value) (l : List ByteArray) (w : World) (h : RowS w v l) (hs : s.size + total l ≤ 1099511627776) :
    Calls Try.prog 57 #[.string s, v] w fun e w' => e = .returned (.string (joinB s l)) ∧ Below w.heap.size w w' := by
  obtain ⟨a, cap, rfl, h63, hsz, hc⟩ := h
  have HC := hide hc
  clear hc
  have HW0 := hide (Wr.new w)
  go_enter Try.func57, Try.ntmps57
  go_wp2_with fail
  refine (wStr (unhide HW0) s (by simp; omega)).mono ?_
  rintro e w1 ⟨rfl, hw1⟩
  have HW1 := hide hw1
  clear hw1 HW0
  go_wp2
  go_loopw [7, 12] (fun x z wr => ∃ k : Nat, z = .int .i64 k ∧ k ≤ l.length ∧ Wr w wr (s.data.toList ++ flatB (l.take k))) (fun _ z _ => l.length - (intOf z).toNat)
  case atStart => exact ⟨0, rfl, Nat.zero_le _, by simpa [flatB] using unhide HW1⟩
  case round =>
    obtain ⟨k, rfl, hk, hwr⟩ := hrel
    by_cases hlt : k < l.length
    · rcases unhide HC with h0 | ⟨b, off, rfl, hb, hcl⟩
      · rw [h0] at hlt; simp at hlt
      · have hcx : wr.cell? ⟨b, off + k, none⟩ = some (.string l[k]) := (hwr.bel.cell (p := ⟨b, off + k, none⟩) hb).trans (hcl k hlt)
        have hlt1 : (k : Int) < (l.length : Int) := by omega
        have hfl : (s.data.toList ++ flatB (l.take k)).length + l[k].size ≤ 1099511627776 := by
          rw [List.length_append, sizeL, flatB_length]
          have h1 := total_take hlt
          have h2 := total_le l (k + 1)
          omega
        have hnx : (s.data.toList ++ flatB (l.take k)) ++ l[k].data.toList = s.data.toList ++ flatB (l.take (k + 1)) := by rw [flatB_take hlt, List.append_assoc]
        have HWS := hide (wStr hwr l[k] hfl)
        rw [hnx] at HWS
        clear hfl hnx hwr hcl
        generalize l[k] = x at hcx HWS
        go_wp2_with fail
        refine (unhide HWS).mono ?_
        rintro e w2 ⟨rfl, hw2⟩
        have HW2 := hide hw2
        clear hw2
        go_wp2
        exact ⟨⟨k + 1, by go_num, by omega, unhide HW2⟩, by simp [intOf]; omega⟩
    · have hke : k = l.length := by omega
      have htl : l.take k = l := by rw [hke]; simp
      rw [htl] at hwr
      have HS := hide (Try.Builder_String_any_k w.heap.size w.heap.size (s.data.toList ++ flatB l) wr hwr.isb hwr.bel.size)
      have HB := hide hwr.bel
      clear hwr htl
      go_wp2_with fail
      refine (unhide HS).mono ?_
      rintro e w2 ⟨rfl, _, b2, _⟩
      have B2 := hide ((unhide HB).trans b2)
      clear b2
      go_wp2
      go_ret
      exact ⟨rfl, unhide B2⟩

set_option maxHeartbeats 4000000 in
set_option maxRecDepth 100000 in
theorem fits_any (d : Fs) (v vs : Value) (data : List ByteArray) (w : World) (hr : right d = true) (h : RowF w v d.files) (hs : RowS w vs data) :
    Calls Try.prog 55 #[fsV d v, vs] w fun e w' => e = .returned (.bool (decide ((used d.files + total data : Int) ≤ d.room))) ∧ Below w.heap.size w w' := by
  obtain ⟨hp1, hp2, hp3, hp4⟩ := right_parts hr
  obtain ⟨a, cap, rfl, h63, hff, hc⟩ := h
  obtain ⟨sa, scap, rfl, hs63, hsz, hsc⟩ := hs
  obtain ⟨room, files, fuse, fault, down⟩ := d
  simp only [fsV] at *
  generalize hres : decide ((used files + total data : Int) ≤ room) = res
  have HRES := hide hres
  have HC := hide hc
  have HSC := hide hsc
  have HSZ := hide hsz
  have hus := hp2
  have hroom := hp1.2.1
  have hb0 : Below w.heap.size w (w.alloc (.cells #[.int .i64 room, .slice a files.length cap, .int .i64 fuse, .int .i64 fault, .bool down] 52)) := (Below.refl _ w).alloc (Nat.le_refl _) _
  clear hc hsc hsz hff hp1 hp2 hp3 hp4 hr hres
  go_enter Try.func55, Try.ntmps55
  go_wp2
  generalize hW : w.alloc (.cells #[.int .i64 room, .slice a files.length cap, .int .i64 fuse, .int .i64 fault, .bool down] 52) = W at *
  clear hW
  go_loopw [5, 7, 17] (fun x y z wr => ∃ k : Nat, z = .int .i64 k ∧ x = .int .i64 (room - used (files.take k)) ∧ k ≤ files.length ∧ Below w.heap.size w wr) (fun _ _ z _ => files.length - (intOf z).toNat)
  case atStart => exact ⟨0, rfl, by simp [used], Nat.zero_le _, hb0⟩
  case round =>
    obtain ⟨k, rfl, rfl, hk, hbw⟩ := hrel
    have hul := used_le files k
    by_cases hlt : k < files.length
    · rcases unhide HC with h0 | ⟨b, off, rfl, hb, hcl⟩
      · rw [h0] at hlt; simp at hlt
      · obtain ⟨c0, c1, c2⟩ := row_cells hcl hlt
        have x0 : wr.cell? ⟨b, off + k * 3, none⟩ = some (.string files[k].name) := (hbw.cell (p := ⟨b, off + k * 3, none⟩) hb).trans c0
        have x1 : wr.cell? ⟨b, off + k * 3 + 1, none⟩ = some (.string files[k].data) := (hbw.cell (p := ⟨b, off + k * 3 + 1, none⟩) hb).trans c1
        have x2 : wr.cell? ⟨b, off + k * 3 + 2, none⟩ = some (.int .i64 files[k].synced) := (hbw.cell (p := ⟨b, off + k * 3 + 2, none⟩) hb).trans c2
        have ht := used_take hlt
        have hul2 := used_le files (k + 1)
        have hnx : room - (used (files.take k) : Int) - (files[k].data.size : Int) = room - (used (files.take (k + 1)) : Int) := by omega
        have HNX := hide hnx
        have hws := hbw.size
        have hlt1 : (k : Int) < (files.length : Int) := by omega
        have hq1 : (files[k].data.size : Int) ≤ 16777216 := by omega
        have hq2 : (used (files.take k) : Int) ≤ 16777216 := by omega
        clear c0 c1 c2 hcl ht hul2 hnx hul
        generalize files[k].name = n0 at x0
        generalize files[k].data = d0 at x1 HNX hq1
        generalize files[k].synced = s0 at x2
        have HBA := hide (hbw.alloc hws (Obj.cells #[Value.string n0, Value.string d0, Value.int IntKind.i64 s0] 56))
        clear hbw
        go_wp2
        exact ⟨⟨k + 1, by go_num, by rw [← unhide HNX], by omega, unhide HBA⟩, by simp [intOf]; omega⟩
    · have hke : k = files.length := by omega
      have htl : files.take k = files := by rw [hke]; simp
      rw [htl]
      clear htl hul
      have hu0 : (used files : Int) ≤ 16777216 := by omega
      generalize used files = U at *
      have HBW := hide hbw
      obtain ⟨left, hleft⟩ : ∃ left : Int, left = room - (U : Int) := ⟨_, rfl⟩
      rw [← hleft]
      have hl0 : 0 ≤ left := by omega
      have hl1 : left ≤ 16777216 := by omega
      have HLEFT := hide hleft
      clear hbw hleft
      generalize hwq : wr = wq at *
      clear hwq
      go_wp2
      go_loopw [5, 9, 29] (fun x y z wr => ∃ k : Nat, z = .int .i64 k ∧ x = .int .i64 (left - total (data.take k)) ∧ (total (data.take k) : Int) ≤ left ∧ k ≤ data.length ∧ wr = wq) (fun _ _ z _ => data.length - (intOf z).toNat)
      case atStart => exact ⟨0, rfl, by simp [total], by simpa [total] using hl0, Nat.zero_le _, rfl⟩
      case round =>
        obtain ⟨k, rfl, rfl, htk, hk, hwq⟩ := hrel
        have HQ := hide hwq
        have HBR : Hid (Below w.heap.size w wr) := by rw [hwq]; exact HBW
        by_cases hlt : k < data.length
        · rcases unhide HSC with h0 | ⟨b, off, rfl, hb, hcl⟩
          · rw [h0] at hlt; simp at hlt
          · have x0 : wr.cell? ⟨b, off + k, none⟩ = some (.string data[k]) := by rw [hwq]; exact ((unhide HBW).cell (p := ⟨b, off + k, none⟩) hb).trans (hcl k hlt)
            clear hwq
            have hz := unhide HSZ _ (List.getElem_mem hlt)
            have ht := total_take hlt
            have hlt1 : (k : Int) < (data.length : Int) := by omega
            have htl := total_le data (k + 1)
            by_cases hfit : (total (data.take (k + 1)) : Int) ≤ left
            · have hnx : left - (total (data.take k) : Int) - (data[k].size : Int) = left - (total (data.take (k + 1)) : Int) := by omega
              have HNX := hide hnx
              have HF := hide hfit
              have hn0 : ¬ (left - (total (data.take k) : Int) - (data[k].size : Int) < 0) := by omega
              have hz2 : (data[k].size : Int) ≤ left := by omega
              have htk2 : (total (data.take k) : Int) + (data[k].size : Int) ≤ left := by omega
              clear hnx hfit hcl ht htl
              generalize data[k] = x at x0 HNX hz hn0 hz2 htk2
              go_wp2
              exact ⟨⟨k + 1, by go_num, by rw [← unhide HNX], unhide HF, by omega, unhide HQ⟩, by simp [intOf]; omega⟩
            · have hno : (false : Bool) = res := by
                rw [← unhide HRES]
                symm
                rw [decide_eq_false_iff_not]
                have := unhide HLEFT
                omega
              have HNO := hide hno
              have hn0 : left - (total (data.take k) : Int) - (data[k].size : Int) < 0 := by omega
              clear hno hfit hcl ht htl
              generalize data[k] = x at x0 hz hn0
              go_wp2
              go_ret
              exact ⟨by rw [← unhide HNO]; rfl, unhide HBR⟩
        · have hke : k = data.length := by omega
          have htl : data.take k = data := by rw [hke]; simp
          rw [htl] at htk
          have hyes : (true : Bool) = res := by
            rw [← unhide HRES]
            symm
            rw [decide_eq_true_eq]
            have := unhide HLEFT
            omega
          have HYES := hide hyes
          clear hyes htl htk hwq
          go_wp2
          go_ret
          exact ⟨by rw [← unhide HYES]; rfl, unhide HBR⟩

end Go.Proofs.Ytmfkhbofmaonkaa
